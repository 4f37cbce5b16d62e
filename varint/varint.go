// Package varint writes numbers as bytes, seven bits in each, and reads them. It is layer 1: see shared/doc/01-varint.md.
package varint

import (
	"iter"

	"quantum/api"
)

// MaxSize is the greatest size.
const MaxSize = 10

// Errors.
const (
	ErrShort api.Errno = 10 // bytes that end inside a number
	ErrOver  api.Errno = 11 // a number above 2^64 - 1
	ErrZero  api.Errno = 12 // a last byte that is 0
)

const (
	groupBits = 7
	more      = 1 << groupBits // in a byte: another one follows
	topGroup  = 1              // the one bit of 64 that is left for the byte with the index MaxSize - 1
)

// Size returns how many bytes a number has.
func Size(x uint64) int {
	n := 0
	for range groups(x) {
		n++
	}
	return n
}

// Write returns the bytes of a number.
func Write(x uint64) []byte { return WriteAll([]uint64{x}) }

// Read returns the number with which some bytes begin, and how many bytes it has.
func Read(b []byte) (uint64, int, api.Errno) {
	var x uint64
	look := func(i int) (last bool, e api.Errno) {
		c := b[i]
		if i == MaxSize-1 && c > topGroup {
			return false, ErrOver
		}
		if i != 0 && c == 0 {
			return false, ErrZero
		}
		x |= uint64(c%more) << (groupBits * i)
		return c < more, api.OK
	}

	size, fault := 0, ErrShort
form:
	for i := range b {
		switch last, e := look(i); {
		case e != api.OK:
			fault = e
			break form
		case last:
			size, fault = i+1, api.OK
			break form
		}
	}
	if fault != api.OK {
		return 0, 0, fault
	}
	return x, size, api.OK
}

// WriteAll returns the bytes of some numbers.
func WriteAll(l []uint64) []byte {
	size := 0
	for _, x := range l {
		size += Size(x)
	}
	b := make([]byte, 0, size)
	for _, x := range l {
		for group, last := range groups(x) {
			if !last {
				group |= more
			}
			b = append(b, group)
		}
	}
	return b
}

// ReadAll returns the numbers that some bytes are.
func ReadAll(b []byte) ([]uint64, api.Errno) {
	var l []uint64
	for at := 0; at < len(b); {
		x, n, e := Read(b[at:])
		if e != api.OK {
			return nil, e
		}
		l = append(l, x)
		at += n
	}
	return l, api.OK
}

// Zigzag returns the zigzag number of an integer.
func Zigzag(n int64) uint64 {
	if n < 0 {
		// -2 n - 1 without the overflow of -n: the complement of n is -n - 1.
		return uint64(^n)<<1 | 1
	}
	return uint64(n) << 1
}

// Unzigzag returns the integer with a zigzag number.
func Unzigzag(x uint64) int64 {
	n := int64(x >> 1)
	if x%2 == 1 {
		return ^n
	}
	return n
}

// groups yields the groups of seven bits of a number, the lowest first, and whether each is the last one.
func groups(x uint64) iter.Seq2[byte, bool] {
	return func(yield func(byte, bool) bool) {
		// Not x itself: the sequence can be gone through again.
		rest := x
		for rest >= more {
			if !yield(byte(rest%more), false) {
				return
			}
			rest >>= groupBits
		}
		yield(byte(rest), true)
	}
}
