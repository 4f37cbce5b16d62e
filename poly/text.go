package poly

import (
	"strconv"
	"strings"

	"quantum/api"
)

// What texts are made of.
const (
	zeroText  = "0"
	oneText   = "1"
	xText     = "x"
	powerText = "x^" // and the degree
	plus      = '+'
)

// maxDigits is how many digits MaxDegree has.
const maxDigits = 2

// Text returns the text of a polynomial.
func Text(p uint64) string {
	if p == 0 {
		return zeroText
	}
	var l []string
	for degree := range terms(p) {
		l = append(l, term(degree))
	}
	return strings.Join(l, string(plus))
}

// Read reads a text.
func Read(s string) (uint64, api.Errno) {
	switch {
	case len(s) > MaxText:
		return 0, api.ErrLong
	case s == zeroText:
		return 0, api.OK
	}
	var p uint64
	above := MaxDegree + 1 // the degree that the next term is below
	at := 0
text:
	for {
		degree, size := firstTerm(s[at:])
		if size == 0 || degree >= above {
			break text
		}
		p |= one << degree
		above = degree
		at += size
		switch {
		case at == len(s):
			return p, api.OK
		case s[at] != plus:
			break text
		}
		at++
	}
	return 0, ErrText
}

// term returns the text of the term with a degree.
func term(degree int) string {
	switch degree {
	case 0:
		return oneText
	case 1:
		return xText
	}
	return powerText + strconv.Itoa(degree)
}

// firstTerm returns the degree of the term with which a string begins, and how many bytes the term has, 0 if there is none. What follows the term is not looked at.
func firstTerm(s string) (degree, size int) {
	switch {
	case strings.HasPrefix(s, oneText):
		return 0, len(oneText)
	case strings.HasPrefix(s, powerText):
		degree, size = firstDegree(s[len(powerText):])
		// A lower degree, and one with a 0 before it, is written in another way.
		if degree < 2 || s[len(powerText)] == '0' {
			return 0, 0
		}
		return degree, len(powerText) + size
	case strings.HasPrefix(s, xText):
		return 1, len(xText)
	}
	return 0, 0
}

// firstDegree returns the number with which a string begins, and how many digits it has. It stops where no degree goes on, so that no number is too great for an int.
func firstDegree(s string) (degree, size int) {
	for size < len(s) && size < maxDigits && s[size] >= '0' && s[size] <= '9' {
		degree = 10*degree + int(s[size]-'0')
		size++
	}
	return degree, size
}
