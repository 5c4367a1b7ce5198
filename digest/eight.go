package digest

import (
	"zugzwang/api"
	"zugzwang/bits"
)

const (
	blockOctets = 64
	blockWords  = 16
	steps       = 64
)

var constants = [steps]uint32{
	0x428a2f98, 0x71374491, 0xb5c0fbcf, 0xe9b5dba5, 0x3956c25b, 0x59f111f1, 0x923f82a4, 0xab1c5ed5,
	0xd807aa98, 0x12835b01, 0x243185be, 0x550c7dc3, 0x72be5d74, 0x80deb1fe, 0x9bdc06a7, 0xc19bf174,
	0xe49b69c1, 0xefbe4786, 0x0fc19dc6, 0x240ca1cc, 0x2de92c6f, 0x4a7484aa, 0x5cb0a9dc, 0x76f988da,
	0x983e5152, 0xa831c66d, 0xb00327c8, 0xbf597fc7, 0xc6e00bf3, 0xd5a79147, 0x06ca6351, 0x14292967,
	0x27b70a85, 0x2e1b2138, 0x4d2c6dfc, 0x53380d13, 0x650a7354, 0x766a0abb, 0x81c2c92e, 0x92722c85,
	0xa2bfe8a1, 0xa81a664b, 0xc24b8b70, 0xc76c51a3, 0xd192e819, 0xd6990624, 0xf40e3585, 0x106aa070,
	0x19a4c116, 0x1e376c08, 0x2748774c, 0x34b0bcb5, 0x391c0cb3, 0x4ed8aa4a, 0x5b9cca4f, 0x682e6ff3,
	0x748f82ee, 0x78a5636f, 0x84c87814, 0x8cc70208, 0x90befffa, 0xa4506ceb, 0xbef9a3f7, 0xc67178f2,
}

// eight are the words that blocks come to.
type eight [8]uint32

func begin() eight {
	return eight{
		0x6a09e667, 0xbb67ae85, 0x3c6ef372, 0xa54ff53a, 0x510e527f, 0x9b05688c, 0x1f83d9ab, 0x5be0cd19,
	}
}

func (e *eight) take(block [blockOctets]byte) {
	ahead := *e
	for t, w := range spread(block) {
		e.step(constants[t], w)
	}
	for i, x := range ahead {
		e[i] = bits.Sum(e[i], x)
	}
}

func (e *eight) step(constant, w uint32) {
	m := bits.Sum(e[7], bits.Mix(e[4], 6, 11, 25), bits.Choose(e[4], e[5], e[6]), constant, w)
	n := bits.Sum(bits.Mix(e[0], 2, 13, 22), bits.Most(e[0], e[1], e[2]))
	*e = eight{bits.Sum(m, n), e[0], e[1], e[2], bits.Sum(m, e[3]), e[4], e[5], e[6]}
}

func (e *eight) tag() api.Tag {
	var t api.Tag
	copy(t[:], bits.Bytes(e[:]...))
	return t
}

// spread are the words of a block.
func spread(block [blockOctets]byte) [steps]uint32 {
	var w [steps]uint32
	// A block is a number of fours: its words are always told.
	own, _ := bits.Words(block[:])
	copy(w[:], own)
	for t := blockWords; t < steps; t++ {
		w[t] = bits.Sum(w[t-16], small(w[t-15], 7, 18, 3), w[t-7], small(w[t-2], 17, 19, 10))
	}
	return w
}

func small(x uint32, i, j, k int) uint32 {
	return bits.Mix(x, i, j) ^ bits.Shift(x, k)
}
