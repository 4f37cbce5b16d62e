package poly_test

import (
	"math"
	"strconv"
	"strings"
	"testing"

	"quantum/api"
	"quantum/poly"
)

var texts = []struct {
	p    uint64
	text string
}{
	{0, "0"},
	{1, "1"},
	{2, "x"},
	{3, "x+1"},
	{4, "x^2"},
	{5, "x^2+1"},
	{6, "x^2+x"},
	{7, "x^2+x+1"},
	{19, "x^4+x+1"},
	{1 << 9, "x^9"},
	{1 << 10, "x^10"},
	{1<<63 | 1<<6 | 1<<3, "x^63+x^6+x^3"},
	{1<<32 | 0x04c11db7, "x^32+x^26+x^23+x^22+x^16+x^12+x^11+x^10+x^8+x^7+x^5+x^4+x^2+x+1"},
}

// allTerms returns the text of the polynomial that has all terms.
func allTerms() string {
	s := ""
	for i := 63; i >= 2; i-- {
		s += "x^" + strconv.Itoa(i) + "+"
	}
	return s + "x+1"
}

// refused fails unless Read refuses a string, and returns nothing with the error.
func refused(t *testing.T, s string, want api.Errno) {
	t.Helper()
	if p, e := poly.Read(s); p != 0 || e != want {
		t.Errorf("Read(%q) = %#x, %d, want 0, %d", s, p, e, want)
	}
}

// P3.5

func TestText(t *testing.T) {
	for _, c := range texts {
		if got := poly.Text(c.p); got != c.text {
			t.Errorf("Text(%#x) = %q, want %q", c.p, got, c.text)
		}
	}
	if got := poly.Text(math.MaxUint64); got != allTerms() {
		t.Errorf("Text of all terms = %q", got)
	}
}

func TestRead(t *testing.T) {
	for _, c := range texts {
		if p, e := poly.Read(c.text); p != c.p || e != api.OK {
			t.Errorf("Read(%q) = %#x, %d, want %#x", c.text, p, e, c.p)
		}
	}
	if p, e := poly.Read(allTerms()); p != math.MaxUint64 || e != api.OK {
		t.Errorf("Read of all terms = %#x, %d", p, e)
	}
}

func TestReadOfNoText(t *testing.T) {
	for _, s := range []string{
		"",
		// no terms
		"+", "^", "2", "10", "00", "-1", "y", "X", "X^2", "x2", "2x", "1x", "xx", "^2", "x^", "x^^2", "x^x", "x^a", "x^ 2",
		// terms that have another form
		"x^0", "x^1", "x^00", "x^01", "x^02", "x^010", "x^+2", "x^-2", "x^2.", "x^0x2", "x^1_0", "x^2^2", "x*x",
		// degrees that are too great, also those that are right modulo 2^64
		"x^64", "x^65", "x^99", "x^100", "x^630", "x^633", "x^18446744073709551616", "x^18446744073709551618", "x^" + strings.Repeat("9", 300),
		// terms in a wrong order, or twice
		"1+x", "x+x^2", "1+1", "x+x", "x^2+x^2", "x^9+x^10", "x^4+1+x", "x^63+x^63", "x^2+x+x+1", "x+1+1",
		// zeros
		"0+1", "1+0", "x+0", "0+x", "0+0", "0x", "x^2+0", "+0",
		// what is between the terms
		"+1", "1+", "x+", "x^2+", "+x^2", "x++1", "x 1", "x1", "x+ 1", "x +1", " x", "x ", "x-1", "x,1", "x^2x", "x^21x", "x^2+x1",
		// bytes of other kinds
		"x\x00", "\x00", "x+1\n", "x^\xd9\xa3", "\xff", "x\xb2", "×", "x^²", "１",
	} {
		refused(t, s, poly.ErrText)
	}
}

func TestReadTellsAllWrongBytes(t *testing.T) {
	const text = "x^63+x^10+x^2+x+1"
	for i := range len(text) {
		for c := range 256 {
			s := text[:i] + string([]byte{byte(c)}) + text[i+1:]
			p, e := poly.Read(s)
			if e == api.OK && poly.Text(p) != s || e != api.OK && (p != 0 || e != poly.ErrText) {
				t.Errorf("Read(%q) = %#x, %d", s, p, e)
			}
		}
		switch s := text[:i]; {
		case i == 0 || strings.HasSuffix(s, "+") || strings.HasSuffix(s, "^"):
			refused(t, s, poly.ErrText)
		case s == "x^63+x^1": // a degree of which the last digit is missing
			refused(t, s, poly.ErrText)
		}
	}
}

func TestReadTooLong(t *testing.T) {
	for _, n := range []int{400, 401, 402, 1000, 1 << 20} {
		want := poly.ErrText
		if n > 400 {
			want = api.ErrLong
		}
		refused(t, strings.Repeat("0", n), want)
		refused(t, strings.Repeat("x", n), want)
		refused(t, (allTerms() + strings.Repeat("+1", n))[:n], want)
		refused(t, strings.Repeat("\xff", n), want)
	}
}

// eachString calls f with all strings of up to n of some bytes.
func eachString(bytes string, n int, f func(s string)) {
	var extend func(s string)
	extend = func(s string) {
		f(s)
		if len(s) == n {
			return
		}
		for _, c := range bytes {
			extend(s + string(c))
		}
	}
	extend("")
}

func TestReadJustTheTexts(t *testing.T) {
	isText := map[string]uint64{}
	for p := range uint64(1 << 14) {
		isText[poly.Text(p)] = p
	}
	eachString("x^+0123", 7, func(s string) {
		p, is := isText[s]
		q, e := poly.Read(s)
		switch {
		case is:
			if q != p || e != api.OK {
				t.Fatalf("Read(%q) = %#x, %d, want %#x", s, q, e, p)
			}
		case e == api.OK:
			// A higher one: it is written as the same string.
			if q < 1<<14 || poly.Text(q) != s {
				t.Fatalf("Read(%q) = %#x", s, q)
			}
		case q != 0 || e != poly.ErrText:
			t.Fatalf("Read(%q) = %#x, %d", s, q, e)
		}
	})
}

// P3.6

func TestWrittenIsReadBack(t *testing.T) {
	check := func(p uint64) {
		s := poly.Text(p)
		if got, e := poly.Read(s); got != p || e != api.OK || len(s) > poly.MaxText {
			t.Fatalf("Read(%q) = %#x, %d, want %#x", s, got, e, p)
		}
	}
	for _, p := range polynomials() {
		check(p)
		for i := range 64 {
			check(p | 1<<i)
		}
	}
	for p := range uint64(1 << 12) {
		check(p)
	}
}
