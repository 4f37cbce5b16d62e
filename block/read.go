package block

import (
	"slices"

	"quantum/api"
	"quantum/codec"
	"quantum/crc"
	"quantum/varint"
)

// Length returns the length of the block with which bytes begin.
func Length(bytes []byte) (int, api.Errno) {
	if len(bytes) < magicAt {
		return 0, ErrShort
	}
	n := int(bytes[0]) | int(bytes[1])<<8 | int(bytes[2])<<16 | int(bytes[3])<<24
	switch {
	case n < MinBlock || n > MaxBlock:
		return 0, ErrLength
	case len(bytes) < n:
		return 0, ErrShort
	}
	return n, api.OK
}

// Read returns the block with which bytes begin, and its length.
func Read(bytes []byte) (Block, int, api.Errno) {
	n, err := Length(bytes)
	if err != api.OK {
		return Block{}, 0, err
	}
	own := bytes[:n]
	if !crc.Sealed(own) {
		return Block{}, 0, ErrSum
	}
	if err := checkHead(own); err != api.OK {
		return Block{}, 0, err
	}
	b := take(own[kindAt], own[headSize:n-sumSize])
	// Each block has one form only: whatever is wrong with a body, the block that was taken is not right, or has other bytes.
	if form, err := Write(b); err != api.OK || !slices.Equal(form, own) {
		return Block{}, 0, ErrBody
	}
	return b, n, api.OK
}

// checkHead returns what is wrong with the head of a block behind its length.
func checkHead(bytes []byte) api.Errno {
	kind := bytes[kindAt]
	switch {
	case [len(magic)]byte(bytes[magicAt:]) != magic:
		return ErrMagic
	case bytes[versionAt] != version:
		return ErrVersion
	case kind != KindEvents && kind != KindEnd:
		return ErrKind
	}
	return api.OK
}

// take returns the one block that may have a body; whether it has it is left open.
func take(kind uint8, body []byte) Block {
	at := 0
	next := func() int {
		x, size, _ := varint.Read(body[at:])
		at += size
		return int(x)
	}
	b := Block{Kind: kind}
	if kind == KindEnd {
		b.Next = next()
		return b
	}
	b.Cpu = uint8(next())
	b.Lost = next()
	count := next()
	if count == 0 {
		return b
	}
	var base codec.Base
	base.Seq = next()
	base.Time = next()
	b.Events, _, _ = codec.Read(base, b.Cpu, count, body[at:])
	return b
}
