package poly_test

import (
	"math"
	"math/big"
	"math/bits"
	"math/rand"
	"testing"

	"quantum/api"
	"quantum/poly"
)

// pol returns the polynomial with the terms of some degrees.
func pol(degrees ...int) uint64 {
	var p uint64
	for _, d := range degrees {
		p ^= 1 << d
	}
	return p
}

// polynomials returns polynomials of each degree: those about the powers of two, and some without a pattern.
func polynomials() []uint64 {
	l := []uint64{0, 19, math.MaxUint64}
	for k := range 64 {
		p := uint64(1) << k
		l = append(l, p-1, p, p+1)
	}
	random := rand.New(rand.NewSource(3))
	for i := range 128 {
		l = append(l, random.Uint64()>>(i%64))
	}
	return l
}

// The same by the definitions, with polynomials of any degree: bits of big numbers.

func long(p uint64) *big.Int { return new(big.Int).SetUint64(p) }

func longMul(a, b *big.Int) *big.Int {
	product := new(big.Int)
	for i := range b.BitLen() {
		if b.Bit(i) == 1 {
			product.Xor(product, new(big.Int).Lsh(a, uint(i)))
		}
	}
	return product
}

func longMod(a *big.Int, m uint64) uint64 {
	rest := new(big.Int).Set(a)
	for rest.BitLen() >= bits.Len64(m) {
		rest.Xor(rest, new(big.Int).Lsh(long(m), uint(rest.BitLen()-bits.Len64(m))))
	}
	return rest.Uint64()
}

func divides(d, p uint64) bool { return d != 0 && longMod(long(p), d) == 0 }

// hasDivisor tries all polynomials of degrees from 1 to one less than that of p.
func hasDivisor(p uint64) bool {
	for d := uint64(2); bits.Len64(d) < bits.Len64(p); d++ {
		if divides(d, p) {
			return true
		}
	}
	return false
}

// P3.1

func TestDegree(t *testing.T) {
	if got := poly.Degree(0); got != -1 {
		t.Errorf("Degree(0) = %d", got)
	}
	for i := range 64 {
		for _, p := range []uint64{1 << i, 1<<i | 1, math.MaxUint64 >> (63 - i)} {
			if got := poly.Degree(p); got != i {
				t.Errorf("Degree(%#x) = %d, want %d", p, got, i)
			}
		}
	}
}

func TestMulExamples(t *testing.T) {
	for _, c := range []struct{ a, b, want uint64 }{
		{3, 3, 5},
		{pol(2, 0), pol(2, 0), pol(4, 0)},
		{pol(1, 0), pol(2, 1, 0), pol(3, 0)},
		{0, 0, 0},
		{0, 1 << 63, 0},
		{0, math.MaxUint64, 0},
		{1, math.MaxUint64, math.MaxUint64},
		{2, 1 << 62, 1 << 63},
		{1 << 31, 1 << 32, 1 << 63},
		{math.MaxUint64 >> 1, 3, pol(63, 0)},
	} {
		for _, f := range [][2]uint64{{c.a, c.b}, {c.b, c.a}} {
			if got, e := poly.Mul(f[0], f[1]); got != c.want || e != api.OK {
				t.Errorf("Mul(%#x, %#x) = %#x, %d, want %#x", f[0], f[1], got, e, c.want)
			}
		}
	}
}

func TestMulTooLong(t *testing.T) {
	for i := range 64 {
		for j := range 64 {
			for _, low := range []uint64{0, 1} {
				a, b := uint64(1)<<i|low, uint64(1)<<j|low
				product, e := poly.Mul(a, b)
				switch {
				case i+j > 63:
					if product != 0 || e != api.ErrLong {
						t.Errorf("Mul(%#x, %#x) = %#x, %d, want ErrLong", a, b, product, e)
					}
				case e != api.OK || poly.Degree(product) != i+j:
					t.Errorf("Mul(%#x, %#x) = %#x, %d, want the degree %d", a, b, product, e, i+j)
				}
			}
		}
	}
	if product, e := poly.Mul(math.MaxUint64, math.MaxUint64); product != 0 || e != api.ErrLong {
		t.Errorf("Mul of all terms = %#x, %d", product, e)
	}
}

func TestMulByItsDefinition(t *testing.T) {
	for _, a := range polynomials() {
		for _, b := range polynomials() {
			want, wantE := uint64(0), api.ErrLong
			if product := longMul(long(a), long(b)); product.IsUint64() {
				want, wantE = product.Uint64(), api.OK
			}
			if got, e := poly.Mul(a, b); got != want || e != wantE {
				t.Fatalf("Mul(%#x, %#x) = %#x, %d, want %#x, %d", a, b, got, e, want, wantE)
			}
		}
	}
}

func TestDivExamples(t *testing.T) {
	for _, c := range []struct{ a, b, q, r uint64 }{
		{19, 5, 5, 2},
		{0, 1, 0, 0},
		{0, 7, 0, 0},
		{5, 1, 5, 0},
		{5, 5, 1, 0},
		{4, 5, 1, 1},
		{3, 5, 0, 3},
		{1, 2, 0, 1},
		{math.MaxUint64, 1, math.MaxUint64, 0},
		{math.MaxUint64, math.MaxUint64, 1, 0},
		{math.MaxUint64, 1 << 63, 1, math.MaxUint64 >> 1},
		{1 << 63, 2, 1 << 62, 0},
		{pol(63, 0), 3, math.MaxUint64 >> 1, 0},
	} {
		if q, r, e := poly.Div(c.a, c.b); q != c.q || r != c.r || e != api.OK {
			t.Errorf("Div(%#x, %#x) = %#x, %#x, %d, want %#x, %#x", c.a, c.b, q, r, e, c.q, c.r)
		}
	}
}

func TestDivByZero(t *testing.T) {
	for _, a := range polynomials() {
		if q, r, e := poly.Div(a, 0); q != 0 || r != 0 || e != api.ErrArg {
			t.Errorf("Div(%#x, 0) = %#x, %#x, %d", a, q, r, e)
		}
	}
}

func TestGcdExamples(t *testing.T) {
	for _, c := range []struct{ a, b, want uint64 }{
		{5, 9, 3},
		{0, 0, 0},
		{0, 6, 6},
		{0, 1 << 63, 1 << 63},
		{1, math.MaxUint64, 1},
		{19, 5, 1},
		{12, 12, 12},
		{1 << 63, 1 << 5, 1 << 5},
		{math.MaxUint64, math.MaxUint32, math.MaxUint32},
	} {
		for _, f := range [][2]uint64{{c.a, c.b}, {c.b, c.a}} {
			if got := poly.Gcd(f[0], f[1]); got != c.want {
				t.Errorf("Gcd(%#x, %#x) = %#x, want %#x", f[0], f[1], got, c.want)
			}
		}
	}
}

func TestGcdByItsDefinition(t *testing.T) {
	for a := range uint64(80) {
		for b := range uint64(80) {
			var want uint64
			for d := range uint64(80) {
				// Of two numbers the one with the higher degree is greater.
				if (a != 0 || b != 0) && divides(d, a) && divides(d, b) {
					want = d
				}
			}
			if got := poly.Gcd(a, b); got != want {
				t.Fatalf("Gcd(%#x, %#x) = %#x, want %#x", a, b, got, want)
			}
		}
	}
}

// P3.2

func TestMulModExamples(t *testing.T) {
	for _, c := range []struct{ a, b, m, want uint64 }{
		{3, 3, 19, 5},
		{3, 3, 5, 0},
		{8, 2, 19, 3},
		{0, 5, 19, 0},
		{19, 5, 19, 0},
		{5, 7, 1, 0},
		{1, 1, 1, 0},
		{1, 1, 2, 1},
		{math.MaxUint64, math.MaxUint64, 2, 1},
		{math.MaxUint64, math.MaxUint64, 1, 0},
		{1 << 62, 2, pol(63, 1, 0), 3},
		{1 << 63, 1 << 63, pol(63, 1, 0), 5},
	} {
		if got, e := poly.MulMod(c.a, c.b, c.m); got != c.want || e != api.OK {
			t.Errorf("MulMod(%#x, %#x, %#x) = %#x, %d, want %#x", c.a, c.b, c.m, got, e, c.want)
		}
	}
}

func TestMulModByItsDefinition(t *testing.T) {
	random := rand.New(rand.NewSource(32))
	number := func() uint64 { return random.Uint64() >> random.Intn(64) }
	for range 20000 {
		a, b, m := number(), number(), number()
		if m == 0 {
			continue
		}
		want := longMod(longMul(long(a), long(b)), m)
		if got, e := poly.MulMod(a, b, m); got != want || e != api.OK {
			t.Fatalf("MulMod(%#x, %#x, %#x) = %#x, %d, want %#x", a, b, m, got, e, want)
		}
	}
}

func TestMulModOfAllTerms(t *testing.T) {
	all := longMul(long(math.MaxUint64), long(math.MaxUint64))
	for _, m := range polynomials() {
		if m == 0 {
			continue
		}
		if got, e := poly.MulMod(math.MaxUint64, math.MaxUint64, m); got != longMod(all, m) || e != api.OK {
			t.Errorf("all terms squared modulo %#x: %#x, %d, want %#x", m, got, e, longMod(all, m))
		}
	}
}

func TestPowerExamples(t *testing.T) {
	for _, c := range []struct {
		n    int
		m    uint64
		want uint64
	}{
		{0, 19, 1},
		{1, 19, 2},
		{3, 19, 8},
		{4, 19, 3},
		{15, 19, 1},
		{16, 19, 2},
		{0, 1, 0},
		{7, 1, 0},
		{0, 2, 1},
		{1, 2, 0},
		{0, 3, 1},
		{1, 3, 1},
		{math.MaxInt, 1, 0},
		{math.MaxInt, 2, 0},
		{math.MaxInt, 3, 1},
		{63, pol(63, 1, 0), 3},
		{64, pol(63, 1, 0), 6},
		{62, 1 << 63, 1 << 62},
		{63, 1 << 63, 0},
		// 2^63 - 1 is 7 (mod 15), and 2^63 - 1 is the order of x modulo the second one.
		{math.MaxInt, 19, pol(3, 1, 0)},
		{math.MaxInt, pol(63, 1, 0), 1},
	} {
		if got, e := poly.Power(c.n, c.m); got != c.want || e != api.OK {
			t.Errorf("Power(%d, %#x) = %#x, %d, want %#x", c.n, c.m, got, e, c.want)
		}
	}
}

func TestPowerByItsDefinition(t *testing.T) {
	for _, m := range polynomials() {
		if m == 0 {
			continue
		}
		for n := range 150 {
			want := longMod(new(big.Int).Lsh(big.NewInt(1), uint(n)), m)
			if got, e := poly.Power(n, m); got != want || e != api.OK {
				t.Fatalf("Power(%d, %#x) = %#x, %d, want %#x", n, m, got, e, want)
			}
		}
	}
}

func TestGreatPowersAreProducts(t *testing.T) {
	random := rand.New(rand.NewSource(33))
	for range 2000 {
		m := random.Uint64()>>random.Intn(64) | 1
		i, j := random.Intn(1<<62), random.Intn(1<<62)
		a, _ := poly.Power(i, m)
		b, _ := poly.Power(j, m)
		want := longMod(longMul(long(a), long(b)), m)
		if got, e := poly.Power(i+j, m); got != want || e != api.OK {
			t.Fatalf("Power(%d + %d, %#x) = %#x, %d, want %#x", i, j, m, got, e, want)
		}
	}
}

func TestMulModAndPowerFaults(t *testing.T) {
	for _, a := range []uint64{0, 1, math.MaxUint64} {
		if got, e := poly.MulMod(a, a, 0); got != 0 || e != api.ErrArg {
			t.Errorf("MulMod(%#x, %#x, 0) = %#x, %d", a, a, got, e)
		}
	}
	for _, c := range []struct {
		n int
		m uint64
	}{{0, 0}, {1, 0}, {math.MaxInt, 0}, {-1, 0}, {-1, 1}, {-1, 19}, {-1, math.MaxUint64}, {math.MinInt, 19}} {
		if got, e := poly.Power(c.n, c.m); got != 0 || e != api.ErrArg {
			t.Errorf("Power(%d, %#x) = %#x, %d", c.n, c.m, got, e)
		}
	}
}

// P3.3

func TestOrderExamples(t *testing.T) {
	for _, c := range []struct {
		m    uint64
		want int
	}{
		{19, 15},
		{5, 2},
		{3, 1},
		{7, 3},
		{pol(4, 3, 2, 1, 0), 5},
		{pol(6, 3, 0), 9},
		{pol(16, 15, 2, 0), 32767},
		{pol(20, 3, 0), 1<<20 - 1},
		{pol(20, 0), 20},
		{pol(20, 10, 0), 30},
	} {
		if got, e := poly.Order(c.m); got != c.want || e != api.OK {
			t.Errorf("Order(%#x) = %d, %d, want %d", c.m, got, e, c.want)
		}
	}
}

// orderByItsDefinition looks through all powers of x up to the first one that was there before.
func orderByItsDefinition(m uint64) (int, api.Errno) {
	seen := map[uint64]bool{}
	power := longMod(long(2), m)
	for n := 1; !seen[power]; n++ {
		if power == 1 {
			return n, api.OK
		}
		seen[power] = true
		power = longMod(long(power<<1), m)
	}
	return 0, api.ErrNone
}

func TestOrderByItsDefinition(t *testing.T) {
	for m := uint64(2); m < 1<<9; m++ {
		want, wantE := orderByItsDefinition(m)
		if got, e := poly.Order(m); got != want || e != wantE {
			t.Fatalf("Order(%#x) = %d, %d, want %d, %d", m, got, e, want, wantE)
		}
	}
}

func TestOrderFaults(t *testing.T) {
	for _, c := range []struct {
		m uint64
		e api.Errno
	}{
		{0, api.ErrArg},
		{1, api.ErrArg},
		{1 << 21, api.ErrArg},
		{1<<21 | 1, api.ErrArg},
		{pol(21, 2, 0), api.ErrArg},
		{1 << 63, api.ErrArg},
		{math.MaxUint64, api.ErrArg},
		{2, api.ErrNone},
		{4, api.ErrNone},
		{6, api.ErrNone},
		{pol(20, 3, 1), api.ErrNone},
		{1 << 20, api.ErrNone},
		{1<<21 - 2, api.ErrNone},
	} {
		if got, e := poly.Order(c.m); got != 0 || e != c.e {
			t.Errorf("Order(%#x) = %d, %d, want 0, %d", c.m, got, e, c.e)
		}
	}
}

func TestIrreducibleExamples(t *testing.T) {
	for _, p := range []uint64{
		2, 3, 7, 11, 13, 19,
		pol(4, 3, 2, 1, 0),
		pol(8, 4, 3, 1, 0),
		pol(31, 3, 0),
		pol(32, 7, 3, 2, 0),
		pol(60, 1, 0),
		pol(61, 5, 2, 1, 0),
		pol(63, 1, 0),
	} {
		if !poly.Irreducible(p) {
			t.Errorf("Irreducible(%#x) is false", p)
		}
	}
	for _, p := range []uint64{
		0, 1, 4, 5, 6, 9, 21,
		pol(8, 4, 3, 2, 1),
		pol(62, 6, 0), // the square of x^31 + x^3 + 1
		1 << 63,
		1<<63 | 1,
		math.MaxUint64,
	} {
		if poly.Irreducible(p) {
			t.Errorf("Irreducible(%#x) is true", p)
		}
	}
}

func TestIrreducibleByItsDefinition(t *testing.T) {
	for p := range uint64(1 << 11) {
		want := bits.Len64(p) >= 2 && !hasDivisor(p)
		if got := poly.Irreducible(p); got != want {
			t.Fatalf("Irreducible(%#x) = %t", p, got)
		}
	}
}

// TestIrreducibleCounts holds how many there are of a degree against what is known: the divisors d of n, with the numbers of a degree d times d added up, make 2^n.
func TestIrreducibleCounts(t *testing.T) {
	count := make([]int, 17)
	for n := 1; n < len(count); n++ {
		for p := uint64(1) << n; p < 2<<n; p++ {
			if poly.Irreducible(p) {
				count[n]++
			}
		}
		sum := 0
		for d := 1; d <= n; d++ {
			if n%d == 0 {
				sum += d * count[d]
			}
		}
		if sum != 1<<n {
			t.Fatalf("%d of the degree %d are irreducible", count[n], n)
		}
	}
}

// P3.4

func TestReverseExamples(t *testing.T) {
	for _, c := range []struct {
		p    uint64
		n    int
		want uint64
	}{
		{6, 4, 6},
		{1, 4, 8},
		{1, 1, 1},
		{2, 1, 0},
		{255, 4, 15},
		{16, 4, 0},
		{math.MaxUint64, 0, 0},
		{math.MaxUint64, 1, 1},
		{math.MaxUint64, 63, math.MaxUint64 >> 1},
		{math.MaxUint64, 64, math.MaxUint64},
		{1, 64, 1 << 63},
		{0x04c11db7, 32, 0xedb88320},
		{1<<32 | 0x04c11db7, 32, 0xedb88320},
	} {
		if got, e := poly.Reverse(c.p, c.n); got != c.want || e != api.OK {
			t.Errorf("Reverse(%#x, %d) = %#x, %d, want %#x", c.p, c.n, got, e, c.want)
		}
	}
}

func TestReverseByItsDefinition(t *testing.T) {
	for _, p := range polynomials() {
		for n := 0; n <= 64; n++ {
			var want uint64
			for i := range n {
				want |= p >> (n - 1 - i) & 1 << i
			}
			if got, e := poly.Reverse(p, n); got != want || e != api.OK {
				t.Fatalf("Reverse(%#x, %d) = %#x, %d, want %#x", p, n, got, e, want)
			}
		}
	}
}

func TestReverseFaults(t *testing.T) {
	for _, n := range []int{-1, 65, -64, 128, math.MaxInt, math.MinInt} {
		for _, p := range []uint64{0, 6, math.MaxUint64} {
			if got, e := poly.Reverse(p, n); got != 0 || e != api.ErrArg {
				t.Errorf("Reverse(%#x, %d) = %#x, %d", p, n, got, e)
			}
		}
	}
}

// P3.6

func TestFactorsChangePlacesAndDistribute(t *testing.T) {
	random := rand.New(rand.NewSource(36))
	for range 5000 {
		a, b, c := random.Uint64()>>32, random.Uint64()>>32, random.Uint64()>>32
		ab, _ := poly.Mul(a, b)
		ba, _ := poly.Mul(b, a)
		ac, _ := poly.Mul(a, c)
		sum, e := poly.Mul(a, b^c)
		if ab != ba || sum != ab^ac || e != api.OK {
			t.Fatalf("%#x, %#x, %#x: %#x and %#x, %#x and %#x, %d", a, b, c, ab, ba, sum, ab^ac, e)
		}
		m := random.Uint64() | 1
		p, _ := poly.MulMod(a<<32|b, c<<32|a, m)
		q, e := poly.MulMod(c<<32|a, a<<32|b, m)
		if p != q || e != api.OK {
			t.Fatalf("%#x and %#x modulo %#x", p, q, m)
		}
	}
}

func TestQuotientTimesDivisorAndRemainder(t *testing.T) {
	for _, a := range polynomials() {
		for _, b := range polynomials() {
			if b == 0 {
				continue
			}
			q, r, e := poly.Div(a, b)
			product, f := poly.Mul(q, b)
			if e != api.OK || f != api.OK || product^r != a || poly.Degree(r) >= poly.Degree(b) {
				t.Fatalf("Div(%#x, %#x) = %#x, %#x, %d", a, b, q, r, e)
			}
		}
	}
}

func TestNoPowerBelowTheOrderIsOne(t *testing.T) {
	for _, m := range []uint64{3, 5, 7, 19, pol(6, 3, 0), pol(10, 3, 0), pol(11, 9, 4, 0), pol(12, 0)} {
		order, e := poly.Order(m)
		if e != api.OK {
			t.Fatalf("Order(%#x): %d", m, e)
		}
		for n := 1; n <= order; n++ {
			power, _ := poly.Power(n, m)
			if (power == 1) != (n == order) {
				t.Fatalf("Power(%d, %#x) = %#x, and the order is %d", n, m, power, order)
			}
		}
	}
}

func TestProductsAreNotIrreducible(t *testing.T) {
	random := rand.New(rand.NewSource(63))
	for range 2000 {
		i := 1 + random.Intn(62)
		j := 1 + random.Intn(63-i)
		a := 1<<i | random.Uint64()>>(64-i)
		b := 1<<j | random.Uint64()>>(64-j)
		product, e := poly.Mul(a, b)
		if e != api.OK || poly.Irreducible(product) {
			t.Fatalf("the product %#x of %#x and %#x is irreducible", product, a, b)
		}
	}
	// All factors of these are of half their degree, or near it.
	for _, f := range [][2]uint64{
		{pol(31, 3, 0), pol(31, 3, 0)},
		{pol(31, 3, 0), pol(31, 6, 0)},
		{pol(31, 3, 0), pol(32, 7, 3, 2, 0)},
		{pol(5, 2, 0), pol(5, 3, 0)},
		{pol(2, 1, 0), pol(2, 1, 0)},
	} {
		product, e := poly.Mul(f[0], f[1])
		if e != api.OK || !poly.Irreducible(f[0]) || !poly.Irreducible(f[1]) || poly.Irreducible(product) {
			t.Errorf("%#x, %#x, and their product %#x", f[0], f[1], product)
		}
	}
}

func TestReversedTwice(t *testing.T) {
	for _, p := range polynomials() {
		for n := 0; n <= 64; n++ {
			once, _ := poly.Reverse(p, n)
			twice, e := poly.Reverse(once, n)
			if lower := p & (1<<n - 1); twice != lower || e != api.OK {
				t.Fatalf("%#x reversed twice in %d bits is %#x, %d", p, n, twice, e)
			}
		}
	}
}

func TestConstants(t *testing.T) {
	if poly.MaxDegree != 63 || poly.MaxOrder != 20 || poly.MaxText != 400 || poly.ErrText != 30 {
		t.Error("a constant is not that of the chapter")
	}
}
