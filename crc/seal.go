package crc

import (
	"iter"
	"slices"

	"quantum/api"
)

const (
	sumBytes  = sumBits / byteBits
	sealedSum = 0x2144df1c // the checksum of all sealed bytes, their last four included, and of no other four bytes or more

	maxFind   = 65536 // bytes
	maxDamage = 4096  // bits
)

// Seal returns bytes and their checksum.
func Seal(b []byte) ([]byte, api.Errno) {
	if len(b) > MaxBytes {
		return nil, api.ErrLong
	}
	sealed := make([]byte, 0, len(b)+sumBytes)
	sealed = append(sealed, b...)
	c := Sum(b)
	for i := range sumBytes {
		sealed = append(sealed, byte(c>>(byteBits*i)))
	}
	return sealed, api.OK
}

// Sealed reports whether bytes are sealed.
func Sealed(b []byte) bool { return len(b) >= sumBytes && Sum(b) == sealedSum }

// Open returns sealed bytes without their checksum.
func Open(b []byte) ([]byte, api.Errno) {
	if !Sealed(b) {
		return nil, api.ErrArg
	}
	return slices.Clone(b[:len(b)-sumBytes]), api.OK
}

// Find returns the bit that has to be changed so that bytes are sealed.
func Find(b []byte) (int, api.Errno) {
	if len(b) < sumBytes || len(b) > maxFind {
		return 0, api.ErrArg
	}
	// The linear part of all that was changed, as only that makes two checksums of as many bytes differ.
	change := Sum(b) ^ sealedSum
	bit, fault := 0, api.ErrNone
search:
	for k, part := range parts(len(b)) {
		if part == change {
			bit, fault = k, api.OK
			break search
		}
	}
	return bit, fault
}

// Damages reports whether sealed bytes are no longer sealed when some bits of them are changed.
func Damages(n int, bits []int) (bool, api.Errno) {
	if n < sumBytes || n > MaxBytes {
		return false, api.ErrArg
	}
	for _, k := range bits {
		if !hasBit(n, k) {
			return false, api.ErrArg
		}
	}
	if len(bits) > maxDamage {
		return false, api.ErrMany
	}
	var change uint32
	for _, k := range bits {
		change ^= number(bitPower(n, k))
	}
	return change != 0, api.OK
}

// parts yields the bits of n bytes, from 0 on, and the linear part of n bytes of which this bit alone is 1.
func parts(n int) iter.Seq2[int, uint32] {
	return func(yield func(int, uint32) bool) {
		p := bitPower(n, 0)
		for k := range byteBits * n {
			if !yield(k, number(p)) {
				return
			}
			// The next bit has a power of x that is less by one. The generator has the term 1: added, it makes x divide what it did not divide.
			if p%2 == 1 {
				p ^= Poly
			}
			p >>= 1
		}
	}
}
