package digest

import "math/bits"

// short is SHA-1's state.
type short [5]uint32

var shortStart = short{0x67452301, 0xefcdab89, 0x98badcfe, 0x10325476, 0xc3d2e1f0}

// shortRounds are SHA-1's numbers, each one that of twenty rounds.
var shortRounds = [4]uint32{0x5a827999, 0x6ed9eba1, 0x8f1bbcdc, 0xca62c1d6}

// behind is the state behind one more block.
func (s short) behind(m block) short {
	a, b, c, d, e := s[0], s[1], s[2], s[3], s[4]
	for i, w := range shortSchedule(m) {
		next := bits.RotateLeft32(a, 5) + mix(i/20, b, c, d) + e + shortRounds[i/20] + w
		a, b, c, d, e = next, a, bits.RotateLeft32(b, 30), c, d
	}
	return short{s[0] + a, s[1] + b, s[2] + c, s[3] + d, s[4] + e}
}

// shortSchedule is each round's word: the block's, then of words ahead.
func shortSchedule(m block) [80]uint32 {
	var w [80]uint32
	for i := range 16 {
		w[i] = m.word(i)
	}
	for i := 16; i < len(w); i++ {
		w[i] = bits.RotateLeft32(w[i-3]^w[i-8]^w[i-14]^w[i-16], 1)
	}
	return w
}

// mix is what a round of one of the four twenties makes of three words.
func mix(twenty int, x, y, z uint32) uint32 {
	switch twenty {
	case 0:
		return choose(x, y, z)
	case 2:
		return majority(x, y, z)
	}
	return x ^ y ^ z
}

// choose takes each bit from y where x has a 1, else from z.
func choose(x, y, z uint32) uint32 { return x&y ^ ^x&z }

// majority takes each bit that two of them have.
func majority(x, y, z uint32) uint32 { return x&y ^ x&z ^ y&z }
