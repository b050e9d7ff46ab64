package digest

import (
	"math/bits"

	"blotter/api"
)

// long is SHA-256's state.
type long [8]uint32

var longStart = long{
	0x6a09e667, 0xbb67ae85, 0x3c6ef372, 0xa54ff53a, 0x510e527f, 0x9b05688c, 0x1f83d9ab, 0x5be0cd19,
}

// longRounds are SHA-256's numbers, one a round.
var longRounds = [64]uint32{
	0x428a2f98, 0x71374491, 0xb5c0fbcf, 0xe9b5dba5, 0x3956c25b, 0x59f111f1, 0x923f82a4, 0xab1c5ed5,
	0xd807aa98, 0x12835b01, 0x243185be, 0x550c7dc3, 0x72be5d74, 0x80deb1fe, 0x9bdc06a7, 0xc19bf174,
	0xe49b69c1, 0xefbe4786, 0x0fc19dc6, 0x240ca1cc, 0x2de92c6f, 0x4a7484aa, 0x5cb0a9dc, 0x76f988da,
	0x983e5152, 0xa831c66d, 0xb00327c8, 0xbf597fc7, 0xc6e00bf3, 0xd5a79147, 0x06ca6351, 0x14292967,
	0x27b70a85, 0x2e1b2138, 0x4d2c6dfc, 0x53380d13, 0x650a7354, 0x766a0abb, 0x81c2c92e, 0x92722c85,
	0xa2bfe8a1, 0xa81a664b, 0xc24b8b70, 0xc76c51a3, 0xd192e819, 0xd6990624, 0xf40e3585, 0x106aa070,
	0x19a4c116, 0x1e376c08, 0x2748774c, 0x34b0bcb5, 0x391c0cb3, 0x4ed8aa4a, 0x5b9cca4f, 0x682e6ff3,
	0x748f82ee, 0x78a5636f, 0x84c87814, 0x8cc70208, 0x90befffa, 0xa4506ceb, 0xbef9a3f7, 0xc67178f2,
}

// finish is the digest when bytes come behind those that the state has taken, which were so many.
func (s long) finish(ahead int, b []byte) api.Hash {
	eachBlock(ahead, b, func(m block) { s = s.behind(m) })
	var d api.Hash
	putWords(d[:], s[:])
	return d
}

// behind is the state behind one more block.
func (s long) behind(m block) long {
	a, b, c, d, e, f, g, h := s[0], s[1], s[2], s[3], s[4], s[5], s[6], s[7]
	for i, w := range longSchedule(m) {
		add := h + (turned(e, 6) ^ turned(e, 11) ^ turned(e, 25)) + choose(e, f, g) + longRounds[i] + w
		first := add + (turned(a, 2) ^ turned(a, 13) ^ turned(a, 22)) + majority(a, b, c)
		a, b, c, d, e, f, g, h = first, a, b, c, d+add, e, f, g
	}
	return long{s[0] + a, s[1] + b, s[2] + c, s[3] + d, s[4] + e, s[5] + f, s[6] + g, s[7] + h}
}

// longSchedule is each round's word: the block's, then of words ahead.
func longSchedule(m block) [64]uint32 {
	var w [64]uint32
	for i := range 16 {
		w[i] = m.word(i)
	}
	for i := 16; i < len(w); i++ {
		x, y := w[i-15], w[i-2]
		w[i] = w[i-16] + (turned(x, 7) ^ turned(x, 18) ^ x>>3) + w[i-7] + (turned(y, 17) ^ turned(y, 19) ^ y>>10)
	}
	return w
}

// turned is a word turned to the right.
func turned(x uint32, by int) uint32 { return bits.RotateLeft32(x, -by) }
