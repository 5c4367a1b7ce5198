package mac

import (
	"slices"

	"zugzwang/api"
	"zugzwang/digest"
)

const (
	blockOctets = 64
	innerPlaces = 0x36
	outerPlaces = 0x5c
)

// block is what a key comes to, whatever its length.
type block [blockOctets]byte

func blockOf(key []byte) block {
	var b block
	if len(key) > blockOctets {
		t := digest.Of(key)
		copy(b[:], t[:])
	} else {
		copy(b[:], key)
	}
	return b
}

func (b block) inner() []byte { return b.turned(innerPlaces) }

func (b block) outer() []byte { return b.turned(outerPlaces) }

// turned changes a copy: the sealer's block stays as the key's, for its other turning.
func (b block) turned(places byte) []byte {
	for i := range b {
		b[i] ^= places
	}
	return b[:]
}

// sealer puts bytes under the key whose block it has.
type sealer struct {
	block
}

func (s sealer) seal(rows [][]byte) api.Tag {
	// The rows are the caller's: the inner block stands ahead of them in a list of its own.
	inner := digest.Of(slices.Concat([][]byte{s.inner()}, rows)...)
	return digest.Of(s.outer(), inner[:])
}
