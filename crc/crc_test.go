package crc_test

import (
	"hash/crc32"
	"math"
	"math/big"
	"math/rand"
	"slices"
	"testing"

	"quantum/api"
	"quantum/crc"
)

// The same by the definitions, with polynomials of any degree: bits of big numbers.

// longMod returns the remainder of a polynomial, divided by the generator.
func longMod(p *big.Int) *big.Int {
	rest := new(big.Int).Set(p)
	generator := big.NewInt(crc.Poly)
	for rest.BitLen() >= generator.BitLen() {
		rest.Xor(rest, new(big.Int).Lsh(generator, uint(rest.BitLen()-generator.BitLen())))
	}
	return rest
}

// polynomialOf returns the polynomial of bytes.
func polynomialOf(b []byte) *big.Int {
	p := new(big.Int)
	n := 8 * len(b)
	for k := range n {
		if b[k/8]>>(k%8)&1 == 1 {
			p.SetBit(p, n-1-k, 1)
		}
	}
	return p
}

// numberOf returns the number of 32 bits with the coefficients of a polynomial, in the opposite order.
func numberOf(p *big.Int) uint32 {
	var c uint32
	for k := range 32 {
		c |= uint32(p.Bit(31-k)) << k
	}
	return c
}

func linearByDefinition(b []byte) uint32 {
	return numberOf(longMod(new(big.Int).Lsh(polynomialOf(b), 32)))
}

func sumByDefinition(b []byte) uint32 {
	c := uint32(math.MaxUint32)
	for _, x := range b {
		c = c>>8 ^ linearByDefinition([]byte{byte(c) ^ x})
	}
	return ^c
}

func randomBytes(random *rand.Rand, n int) []byte {
	b := make([]byte, n)
	random.Read(b)
	return b
}

// someBytes returns lists of bytes of all lengths up to 40, and some of up to 600.
func someBytes() [][]byte {
	random := rand.New(rand.NewSource(4))
	l := [][]byte{nil, {}, {0}, {255}, []byte("123456789"), make([]byte, 64), slices.Repeat([]byte{255}, 64)}
	for n := range 41 {
		l = append(l, randomBytes(random, n))
	}
	for range 10 {
		l = append(l, randomBytes(random, random.Intn(600)))
	}
	return l
}

// someNumbers returns numbers of one bit, of all bits up to one, and some without a pattern.
func someNumbers() []uint32 {
	l := []uint32{0, math.MaxUint32, 0xedb88320}
	for k := range 32 {
		l = append(l, 1<<k, math.MaxUint32>>k)
	}
	random := rand.New(rand.NewSource(32))
	for range 64 {
		l = append(l, random.Uint32())
	}
	return l
}

var wrongLengths = []int{-1, -8, 1 - 1<<61, math.MinInt, crc.MaxBytes + 1, crc.MaxBytes * 2, 1 << 29, 1 << 61, math.MaxInt}

// P4.1

func TestConstants(t *testing.T) {
	degrees := []int{32, 26, 23, 22, 16, 12, 11, 10, 8, 7, 5, 4, 2, 1, 0}
	p := 0
	for _, d := range degrees {
		p |= 1 << d
	}
	if crc.Poly != p || crc.MaxBytes != 1<<24 {
		t.Error("a constant is not that of the chapter")
	}
}

func TestSumExamples(t *testing.T) {
	for _, c := range []struct {
		b    []byte
		want uint32
	}{
		{nil, 0},
		{[]byte{}, 0},
		{[]byte("123456789"), 0xcbf43926},
		{[]byte{0}, 0xd202ef8d},
		{[]byte{0, 0, 0, 0}, 0x2144df1c},
		{[]byte{255, 255, 255, 255}, 0xffffffff},
		{[]byte("a"), 0xe8b7be43},
		{[]byte("The quick brown fox jumps over the lazy dog"), 0x414fa339},
	} {
		if got := crc.Sum(c.b); got != c.want {
			t.Errorf("Sum(%v) = %#x, want %#x", c.b, got, c.want)
		}
	}
}

func TestSumByItsDefinition(t *testing.T) {
	for _, b := range someBytes() {
		if got, want := crc.Sum(b), sumByDefinition(b); got != want {
			t.Fatalf("Sum(%v) = %#x, want %#x", b, got, want)
		}
	}
	for x := range 256 {
		if got, want := crc.Sum([]byte{byte(x)}), sumByDefinition([]byte{byte(x)}); got != want {
			t.Fatalf("Sum of %d = %#x, want %#x", x, got, want)
		}
	}
}

func TestSumOfManyBytes(t *testing.T) {
	random := rand.New(rand.NewSource(41))
	for _, n := range []int{1 << 10, 4096, 65537, 1 << 20, crc.MaxBytes, crc.MaxBytes + 5} {
		b := randomBytes(random, n)
		if got, want := crc.Sum(b), crc32.ChecksumIEEE(b); got != want {
			t.Errorf("Sum of %d bytes = %#x, want %#x", n, got, want)
		}
	}
}

func TestUpdate(t *testing.T) {
	for _, b := range someBytes() {
		want := crc.Sum(b)
		if got := crc.Update(0, b); got != want {
			t.Fatalf("Update(0, %v) = %#x, want %#x", b, got, want)
		}
		for i := range len(b) + 1 {
			if got := crc.Update(crc.Sum(b[:i]), b[i:]); got != want {
				t.Fatalf("%v from %d on: %#x, want %#x", b, i, got, want)
			}
		}
		var c uint32
		for _, x := range b {
			c = crc.Update(c, []byte{x})
		}
		if c != want {
			t.Fatalf("%v, byte by byte: %#x, want %#x", b, c, want)
		}
	}
	for _, c := range someNumbers() {
		if got := crc.Update(c, nil); got != c {
			t.Errorf("Update(%#x, nil) = %#x", c, got)
		}
		if got, want := crc.Update(c, []byte("abc")), crc32.Update(c, crc32.IEEETable, []byte("abc")); got != want {
			t.Errorf("Update(%#x, abc) = %#x, want %#x", c, got, want)
		}
	}
}

func TestLinearExamples(t *testing.T) {
	for _, c := range []struct {
		b    []byte
		want uint32
	}{
		{[]byte{128}, 0xedb88320},
		{[]byte{1}, 0x77073096},
		{nil, 0},
		{[]byte{0}, 0},
		{make([]byte, 1000), 0},
	} {
		if got := crc.Linear(c.b); got != c.want {
			t.Errorf("Linear(%v) = %#x, want %#x", c.b, got, c.want)
		}
	}
}

func TestLinearByItsDefinition(t *testing.T) {
	for _, b := range someBytes() {
		if got, want := crc.Linear(b), linearByDefinition(b); got != want {
			t.Fatalf("Linear(%v) = %#x, want %#x", b, got, want)
		}
	}
	for x := range 256 {
		if got, want := crc.Linear([]byte{byte(x)}), linearByDefinition([]byte{byte(x)}); got != want {
			t.Fatalf("Linear of %d = %#x, want %#x", x, got, want)
		}
	}
}

func TestBytesAreNotChanged(t *testing.T) {
	for _, b := range someBytes() {
		before := slices.Clone(b)
		crc.Sum(b)
		crc.Update(5, b)
		crc.Linear(b)
		crc.Sealed(b)
		crc.Open(b)
		crc.Find(b)
		if !slices.Equal(b, before) {
			t.Fatalf("%v was changed to %v", before, b)
		}
	}
}

// P4.2

func TestShiftByItsDefinition(t *testing.T) {
	for _, b := range someBytes() {
		c := crc.Linear(b)
		for _, n := range []int{0, 1, 2, 3, 4, 5, 7, 8, 100, 511} {
			want := linearByDefinition(append(slices.Clone(b), make([]byte, n)...))
			if got, e := crc.Shift(c, n); got != want || e != api.OK {
				t.Fatalf("Shift of the part of %v by %d = %#x, %d, want %#x", b, n, got, e, want)
			}
		}
	}
	for _, c := range someNumbers() {
		// Every number is the linear part of some four bytes.
		for n := range 20 {
			p := new(big.Int)
			for k := range 32 {
				p.SetBit(p, 31-k, uint(c>>k&1))
			}
			want := numberOf(longMod(p.Lsh(p, uint(8*n))))
			if got, e := crc.Shift(c, n); got != want || e != api.OK {
				t.Fatalf("Shift(%#x, %d) = %#x, %d, want %#x", c, n, got, e, want)
			}
		}
	}
}

func TestShiftByManyBytes(t *testing.T) {
	zeros := make([]byte, crc.MaxBytes)
	b := []byte{7, 200, 31}
	for _, n := range []int{4096, 65535, 65536, 1<<20 + 3, crc.MaxBytes - 1, crc.MaxBytes} {
		want := crc.Linear(append(slices.Clone(b), zeros[:n]...))
		if got, e := crc.Shift(crc.Linear(b), n); got != want || e != api.OK {
			t.Errorf("Shift by %d = %#x, %d, want %#x", n, got, e, want)
		}
	}
}

func TestJoin(t *testing.T) {
	if got, e := crc.Join(crc.Sum([]byte("1234")), crc.Sum([]byte("56789")), 5); got != 0xcbf43926 || e != api.OK {
		t.Errorf("Join of 1234 and 56789 = %#x, %d", got, e)
	}
	for _, b := range someBytes() {
		for i := range len(b) + 1 {
			got, e := crc.Join(crc.Sum(b[:i]), crc.Sum(b[i:]), len(b)-i)
			if want := crc.Sum(b); got != want || e != api.OK {
				t.Fatalf("Join of %v, cut at %d = %#x, %d, want %#x", b, i, got, e, want)
			}
		}
	}
}

func TestJoinOfManyBytes(t *testing.T) {
	b := randomBytes(rand.New(rand.NewSource(42)), crc.MaxBytes+1000)
	want := crc.Sum(b)
	for _, n := range []int{crc.MaxBytes, crc.MaxBytes - 1, 1 << 20} {
		i := len(b) - n
		if got, e := crc.Join(crc.Sum(b[:i]), crc.Sum(b[i:]), n); got != want || e != api.OK {
			t.Errorf("Join with %d bytes = %#x, %d, want %#x", n, got, e, want)
		}
	}
}

func TestJoinIsShiftAndTheOther(t *testing.T) {
	for i, a := range someNumbers() {
		for _, b := range someNumbers() {
			shifted, _ := crc.Shift(a, i)
			if got, e := crc.Join(a, b, i); got != shifted^b || e != api.OK {
				t.Fatalf("Join(%#x, %#x, %d) = %#x, %d, want %#x", a, b, i, got, e, shifted^b)
			}
		}
	}
}

func TestShiftAndJoinFaults(t *testing.T) {
	for _, n := range wrongLengths {
		for _, c := range someNumbers() {
			if got, e := crc.Shift(c, n); got != 0 || e != api.ErrArg {
				t.Fatalf("Shift(%#x, %d) = %#x, %d", c, n, got, e)
			}
			if got, e := crc.Join(c, 7, n); got != 0 || e != api.ErrArg {
				t.Fatalf("Join(%#x, 7, %d) = %#x, %d", c, n, got, e)
			}
		}
	}
}

// P4.4

func TestBitByItsDefinition(t *testing.T) {
	if got, e := crc.Bit(1, 7); got != 0xedb88320 || e != api.OK {
		t.Errorf("Bit(1, 7) = %#x, %d", got, e)
	}
	for n := 1; n <= 24; n++ {
		for k := range 8 * n {
			b := make([]byte, n)
			b[k/8] = 1 << (k % 8)
			want := linearByDefinition(b)
			if got, e := crc.Bit(n, k); got != want || e != api.OK || crc.Linear(b) != want {
				t.Fatalf("Bit(%d, %d) = %#x, %d, want %#x", n, k, got, e, want)
			}
		}
	}
}

func TestBitOfManyBytes(t *testing.T) {
	for _, n := range []int{4096, 65536, 1<<20 + 1, crc.MaxBytes} {
		b := make([]byte, n)
		for _, k := range []int{0, 1, 7, 8, 4*n + 3, 8*n - 33, 8*n - 32, 8*n - 1} {
			b[k/8] = 1 << (k % 8)
			if got, e := crc.Bit(n, k); got != crc.Linear(b) || e != api.OK {
				t.Errorf("Bit(%d, %d) = %#x, %d, want %#x", n, k, got, e, crc.Linear(b))
			}
			b[k/8] = 0
		}
	}
}

func TestBitFaults(t *testing.T) {
	for _, c := range []struct{ n, k int }{
		{0, 0}, {0, -1}, {-1, 0}, {-1, -8}, {1, -1}, {1, 8}, {4, 32}, {4, math.MaxInt}, {4, math.MinInt},
		{crc.MaxBytes, 8 * crc.MaxBytes}, {crc.MaxBytes, -1}, {crc.MaxBytes + 1, 0}, {1 << 61, 0}, {1<<61 + 1, 0}, {1 - 1<<61, 0}, {math.MaxInt, 0}, {math.MinInt, 0},
	} {
		if got, e := crc.Bit(c.n, c.k); got != 0 || e != api.ErrArg {
			t.Errorf("Bit(%d, %d) = %#x, %d", c.n, c.k, got, e)
		}
	}
}

// P4.6

func TestLinearPartsAreLinear(t *testing.T) {
	random := rand.New(rand.NewSource(46))
	for n := range 300 {
		a, b, both := randomBytes(random, n), randomBytes(random, n), make([]byte, n)
		var bits uint32
		for i := range both {
			both[i] = a[i] ^ b[i]
			for k := range 8 {
				if both[i]>>k&1 == 1 {
					part, _ := crc.Bit(n, 8*i+k)
					bits ^= part
				}
			}
		}
		want := crc.Linear(a) ^ crc.Linear(b)
		if crc.Linear(both) != want || bits != want || crc.Sum(a)^crc.Sum(b) != want {
			t.Fatalf("%v and %v: %#x, by the bits %#x, by the sums %#x, want %#x", a, b, crc.Linear(both), bits, crc.Sum(a)^crc.Sum(b), want)
		}
	}
}
