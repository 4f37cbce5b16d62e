package crc_test

import (
	"encoding/binary"
	"math"
	"math/rand"
	"slices"
	"testing"

	"quantum/api"
	"quantum/crc"
)

// sealed returns the sealed form of bytes.
func sealed(t *testing.T, b []byte) []byte {
	t.Helper()
	s, e := crc.Seal(b)
	if e != api.OK || len(s) != len(b)+4 {
		t.Fatalf("Seal of %d bytes: %d bytes, %d", len(b), len(s), e)
	}
	return s
}

// flip changes bits of bytes, each as often as it is there.
func flip(b []byte, bits ...int) {
	for _, k := range bits {
		b[k/8] ^= 1 << (k % 8)
	}
}

// damages fails the test unless Damages answers so.
func damages(t *testing.T, n int, bits []int, want bool) {
	t.Helper()
	if got, e := crc.Damages(n, bits); got != want || e != api.OK {
		t.Fatalf("Damages(%d, %v) = %t, %d, want %t", n, bits, got, e, want)
	}
}

// generatorBits returns the bits of the generator as a change that begins at a bit: the shortest one that is not found.
func generatorBits(at int) []int {
	var l []int
	for i := range 33 {
		if crc.Poly>>(32-i)&1 == 1 {
			l = append(l, at+i)
		}
	}
	return l
}

// P4.3

func TestSealExamples(t *testing.T) {
	for _, c := range []struct{ b, want []byte }{
		{nil, []byte{0, 0, 0, 0}},
		{[]byte{}, []byte{0, 0, 0, 0}},
		{[]byte{0}, []byte{0, 0x8d, 0xef, 0x02, 0xd2}},
		{[]byte("123456789"), append([]byte("123456789"), 0x26, 0x39, 0xf4, 0xcb)},
	} {
		if got, e := crc.Seal(c.b); !slices.Equal(got, c.want) || e != api.OK {
			t.Errorf("Seal(%v) = %v, %d, want %v", c.b, got, e, c.want)
		}
	}
}

func TestSealedAreBytesAndTheirChecksum(t *testing.T) {
	for _, b := range someBytes() {
		want := binary.LittleEndian.AppendUint32(slices.Clone(b), sumByDefinition(b))
		got := sealed(t, b)
		if !slices.Equal(got, want) || !crc.Sealed(want) {
			t.Fatalf("Seal(%v) = %v, want %v", b, got, want)
		}
		opened, e := crc.Open(want)
		if !slices.Equal(opened, b) || e != api.OK {
			t.Fatalf("Open(%v) = %v, %d", want, opened, e)
		}
	}
}

func TestSealedByItsDefinition(t *testing.T) {
	isSealed := func(b []byte) bool {
		n := len(b) - 4
		return n >= 0 && binary.LittleEndian.Uint32(b[n:]) == sumByDefinition(b[:n])
	}
	check := func(b []byte) {
		t.Helper()
		want := isSealed(b)
		opened, e := crc.Open(b)
		switch {
		case crc.Sealed(b) != want:
			t.Fatalf("Sealed(%v) is %t", b, !want)
		case want && (e != api.OK || !slices.Equal(opened, b[:len(b)-4])):
			t.Fatalf("Open(%v) = %v, %d", b, opened, e)
		case !want && (e != api.ErrArg || len(opened) != 0):
			t.Fatalf("Open(%v) = %v, %d", b, opened, e)
		}
	}
	for _, b := range someBytes() {
		check(b)
	}
	b := sealed(t, []byte{9, 8, 7})
	for i := range b {
		for x := range 256 {
			c := slices.Clone(b)
			c[i] = byte(x)
			check(c)
		}
		check(b[:i])
		check(b[i:])
		check(append(slices.Clone(b), b[:i]...))
	}
	// In the opposite order, not inverted, or twice.
	check([]byte{0, 0xd2, 0x02, 0xef, 0x8d})
	check([]byte{255, 255, 255, 255})
	check(sealed(t, b))
}

func TestNothingShorterIsSealed(t *testing.T) {
	if crc.Sealed(nil) {
		t.Error("nothing is sealed")
	}
	for n := 1; n <= 2; n++ {
		for x := range 1 << (8 * n) {
			if b := []byte{byte(x), byte(x >> 8)}[:n]; crc.Sealed(b) {
				t.Fatalf("%v is sealed", b)
			}
		}
	}
	for _, b := range [][]byte{{0}, {0, 0}, {0, 0, 0}, {0xcb, 0xf4, 0x39}} {
		if l, e := crc.Open(b); crc.Sealed(b) || len(l) != 0 || e != api.ErrArg {
			t.Errorf("%v is sealed, or opened as %v, %d", b, l, e)
		}
	}
}

func TestSealTooLong(t *testing.T) {
	b := make([]byte, crc.MaxBytes+1)
	b[0], b[crc.MaxBytes-1] = 3, 5
	s := sealed(t, b[:crc.MaxBytes])
	opened, e := crc.Open(s)
	if !crc.Sealed(s) || e != api.OK || !slices.Equal(opened, b[:crc.MaxBytes]) {
		t.Errorf("the most bytes are not opened: %d", e)
	}
	if s, e := crc.Seal(b); len(s) != 0 || e != api.ErrLong {
		t.Errorf("Seal of one more: %d bytes, %d", len(s), e)
	}
}

func TestSealAndOpenShareNothing(t *testing.T) {
	whole := []byte{1, 2, 3, 4, 5, 6, 7, 8, 9, 10}
	before := slices.Clone(whole)
	s := sealed(t, whole[:5])
	s[0], s[8] = 77, 77
	if !slices.Equal(whole, before) {
		t.Errorf("Seal changed or shares its argument: %v", whole)
	}
	whole = sealed(t, before)
	opened, _ := crc.Open(whole)
	opened[0] = 77
	_ = append(opened, 99, 99, 99, 99)
	if !crc.Sealed(whole) {
		t.Errorf("Open shares its argument: %v", whole)
	}
	empty, _ := crc.Open([]byte{0, 0, 0, 0, 9}[:4])
	if len(empty) != 0 {
		t.Errorf("Open of nothing sealed: %v", empty)
	}
}

// P4.4

func TestDamagesByItsDefinition(t *testing.T) {
	random := rand.New(rand.NewSource(44))
	for n := 4; n <= 40; n++ {
		for range 60 {
			b := sealed(t, randomBytes(random, n-4))
			bits := make([]int, random.Intn(12))
			for i := range bits {
				bits[i] = random.Intn(8 * n)
			}
			before := slices.Clone(bits)
			flip(b, bits...)
			damages(t, n, bits, !crc.Sealed(b))
			if !slices.Equal(bits, before) {
				t.Fatalf("%v was changed to %v", before, bits)
			}
			// All of them twice.
			damages(t, n, append(before, bits...), false)
		}
	}
}

func TestDamagesOfBitsThatAreThereMoreThanOnce(t *testing.T) {
	damages(t, 4, nil, false)
	damages(t, 4, []int{}, false)
	damages(t, 4, []int{5}, true)
	damages(t, 4, []int{5, 5}, false)
	damages(t, 4, []int{5, 5, 5}, true)
	damages(t, 4, []int{5, 6, 5}, true)
	damages(t, 4, []int{5, 6, 6, 5}, false)
	damages(t, 4, []int{0, 31, 31}, true)
}

func TestDamagesThatAreNotFound(t *testing.T) {
	for _, n := range []int{5, 6, 100, 4096, crc.MaxBytes} {
		for _, at := range []int{0, 1, 7, 8*n - 33} {
			if at+32 >= 8*n {
				continue
			}
			bits := generatorBits(at)
			damages(t, n, bits, false)
			damages(t, n, bits[1:], true)
			damages(t, n, bits[:len(bits)-1], true)
			b := make([]byte, min(n, 5000)-4)
			if n == len(b)+4 {
				s := sealed(t, b)
				flip(s, bits...)
				if !crc.Sealed(s) {
					t.Fatalf("%d bytes are not sealed after a change of %v", n, bits)
				}
			}
		}
	}
	// The order of x modulo the generator is 2^32 - 1, which is beyond all bits here: two bits are always found.
	damages(t, crc.MaxBytes, []int{0, 8*crc.MaxBytes - 1}, true)
}

func TestDamagesFaults(t *testing.T) {
	many := make([]int, 4097)
	manyAndWrong := append(slices.Clone(many), 32)
	for _, c := range []struct {
		n    int
		bits []int
		e    api.Errno
	}{
		{3, nil, api.ErrArg},
		{3, []int{0}, api.ErrArg},
		{0, nil, api.ErrArg},
		{-1, nil, api.ErrArg},
		{math.MinInt, nil, api.ErrArg},
		{1 - 1<<61, []int{0}, api.ErrArg},
		{crc.MaxBytes + 1, nil, api.ErrArg},
		{1 << 61, []int{0}, api.ErrArg},
		{math.MaxInt, nil, api.ErrArg},
		{4, []int{-1}, api.ErrArg},
		{4, []int{32}, api.ErrArg},
		{4, []int{0, 1, 32}, api.ErrArg},
		{4, []int{32, 32}, api.ErrArg},
		{4, []int{math.MaxInt}, api.ErrArg},
		{4, []int{math.MinInt}, api.ErrArg},
		{crc.MaxBytes, []int{8 * crc.MaxBytes}, api.ErrArg},
		{3, many, api.ErrArg},
		{4, many, api.ErrMany},
		{4, manyAndWrong, api.ErrArg},
		{5, manyAndWrong, api.ErrMany},
		{crc.MaxBytes, make([]int, 1<<20), api.ErrMany},
	} {
		if got, e := crc.Damages(c.n, c.bits); got || e != c.e {
			t.Errorf("Damages(%d, %d bits) = %t, %d, want %d", c.n, len(c.bits), got, e, c.e)
		}
	}
	damages(t, 4, many[:4096], false)
	damages(t, 4, append(many[:4095:4095], 31), true)
}

// P4.5

// found fails the test unless Find answers so.
func found(t *testing.T, b []byte, want int, wantE api.Errno) {
	t.Helper()
	if k, e := crc.Find(b); k != want || e != wantE {
		t.Fatalf("Find of %d bytes = %d, %d, want %d, %d", len(b), k, e, want, wantE)
	}
}

func TestFindByItsDefinition(t *testing.T) {
	random := rand.New(rand.NewSource(45))
	for n := 4; n <= 24; n++ {
		for range 4 {
			b := sealed(t, randomBytes(random, n-4))
			found(t, b, 0, api.ErrNone)
			for k := range 8 * n {
				flip(b, k)
				found(t, b, k, api.OK)
				flip(b, k)
			}
			// Any bytes: the least bit that makes them sealed, if there is one.
			b = randomBytes(random, n)
			want, wantE := 0, api.ErrNone
			for k := 8*n - 1; k >= 0; k-- {
				flip(b, k)
				if crc.Sealed(b) {
					want, wantE = k, api.OK
				}
				flip(b, k)
			}
			found(t, b, want, wantE)
		}
	}
}

func TestFindInManyBytes(t *testing.T) {
	for _, n := range []int{4096, 65535, 65536} {
		b := sealed(t, randomBytes(rand.New(rand.NewSource(int64(n))), n-4))
		found(t, b, 0, api.ErrNone)
		for _, k := range []int{0, 1, 4*n + 5, 8*n - 34, 8*n - 33, 8*n - 32, 8*n - 1} {
			flip(b, k)
			found(t, b, k, api.OK)
			flip(b, k)
		}
	}
}

// TestFindAnotherBit changes two bits of many bytes that together are a third one, and finds that one.
func TestFindAnotherBit(t *testing.T) {
	const n = 65536
	at := map[uint32]int{}
	for k := range 8 * n {
		part, _ := crc.Bit(n, k)
		at[part] = k
	}
	last, _ := crc.Bit(n, 8*n-1)
	b := sealed(t, make([]byte, n-4))
	tried := 0
	for k := 8*n - 2; k >= 0 && tried < 8; k-- {
		part, _ := crc.Bit(n, k)
		third, is := at[part^last]
		if !is || third > k {
			continue
		}
		tried++
		flip(b, k, 8*n-1)
		found(t, b, third, api.OK)
		flip(b, third)
		if !crc.Sealed(b) {
			t.Fatalf("the bits %d, %d and %d are found", third, k, 8*n-1)
		}
		flip(b, k, 8*n-1, third)
	}
	if tried == 0 {
		t.Error("no two bits are a third one")
	}
}

func TestFindNone(t *testing.T) {
	b := sealed(t, []byte("123456789"))
	for i := range 8 * len(b) {
		for k := range i {
			flip(b, i, k)
			found(t, b, 0, api.ErrNone)
			flip(b, i, k)
		}
	}
	flip(b, generatorBits(3)...)
	found(t, b, 0, api.ErrNone)
}

func TestFindFaults(t *testing.T) {
	for _, n := range []int{0, 1, 2, 3, 65537, 65540, 1 << 20} {
		found(t, make([]byte, n), 0, api.ErrArg)
	}
	found(t, nil, 0, api.ErrArg)
	found(t, sealed(t, make([]byte, 65533)), 0, api.ErrArg)
	found(t, []byte{0, 0, 0, 0}, 0, api.ErrNone)
	found(t, []byte{0, 0, 0, 128}, 31, api.OK)
	found(t, []byte{1, 0, 0, 0}, 0, api.OK)
}

// P4.6

func TestChangesWithin32BitsAreFound(t *testing.T) {
	random := rand.New(rand.NewSource(461))
	change := func(n, at int, pattern uint32) {
		t.Helper()
		var bits []int
		for i := range 32 {
			if pattern>>i&1 == 1 {
				bits = append(bits, at+i)
			}
		}
		damages(t, n, bits, true)
		b := sealed(t, randomBytes(random, n-4))
		flip(b, bits...)
		if crc.Sealed(b) {
			t.Fatalf("%d bytes are sealed after a change of %v", n, bits)
		}
	}
	for pattern := uint32(1); pattern < 1<<12; pattern++ {
		change(8, random.Intn(33), pattern)
	}
	for range 2000 {
		n := 4 + random.Intn(200)
		change(n, random.Intn(8*n-31), random.Uint32()|1<<random.Intn(32))
	}
	change(4, 0, math.MaxUint32)
	change(4096, 8*4096-32, math.MaxUint32)
}

// TestFewBitsAreFound holds all changes of one, two and three bits of 4096 bytes. Whether one is found does not depend on how many bits are behind it, so the last bit is the last one that is changed.
func TestFewBitsAreFound(t *testing.T) {
	const n = 4096
	const last = 8*n - 1
	at := map[uint32]int{}
	for k := range 8 * n {
		part, e := crc.Bit(n, k)
		if part == 0 || e != api.OK {
			t.Fatalf("the bit %d is not found: %d", k, e)
		}
		if other, is := at[part]; is {
			t.Fatalf("the bits %d and %d are not found", other, k)
		}
		at[part] = k
	}
	lastPart, _ := crc.Bit(n, last)
	for part, k := range at {
		if other, is := at[part^lastPart]; is {
			t.Fatalf("the bits %d, %d and %d are not found", k, other, last)
		}
	}
	random := rand.New(rand.NewSource(463))
	for range 300 {
		bits := random.Perm(8 * n)[:3]
		damages(t, n, bits[:1], true)
		damages(t, n, bits[:2], true)
		damages(t, n, bits, true)
	}
}

// TestFoundDoesNotDependOnTheBytes makes the same changes in other bytes of the same length.
func TestFoundDoesNotDependOnTheBytes(t *testing.T) {
	random := rand.New(rand.NewSource(464))
	for n := 5; n < 60; n++ {
		for _, bits := range [][]int{generatorBits(random.Intn(8*n - 32)), {0}, {8*n - 1, 3}, random.Perm(8 * n)[:4]} {
			want, _ := crc.Damages(n, bits)
			for range 5 {
				b := sealed(t, randomBytes(random, n-4))
				flip(b, bits...)
				if crc.Sealed(b) == want {
					t.Fatalf("%v are changed: Damages is %t, and Sealed too", bits, want)
				}
			}
		}
	}
}

func TestOneBitOf4096BytesIsFound(t *testing.T) {
	random := rand.New(rand.NewSource(465))
	b := sealed(t, randomBytes(random, 4092))
	for range 400 {
		k := random.Intn(8 * len(b))
		flip(b, k)
		found(t, b, k, api.OK)
		flip(b, k)
	}
}
