package wire

import "unicode/utf8"

const letters = "ABCDEFGHIJKLMNOPQRSTUVWXYZabcdefghijklmnopqrstuvwxyz0123456789-_"

// letterBits is how many bits one letter says.
const letterBits = 6

// Spell is bytes in letters.
func Spell(b []byte) string {
	out := make([]byte, 0, (len(b)*8+letterBits-1)/letterBits)
	var held bitRow
	for _, x := range b {
		held.put(uint(x), 8)
		for held.count >= letterBits {
			out = append(out, letters[held.take(letterBits)])
		}
	}
	if held.count > 0 {
		held.put(0, letterBits-held.count)
		out = append(out, letters[held.take(letterBits)])
	}
	return string(out)
}

// Unspell is the bytes that some letters spell.
func Unspell(s string) ([]byte, bool) {
	out := make([]byte, 0, len(s)*letterBits/8)
	var held bitRow
	for i := range len(s) {
		n, ok := letterNumber(s[i])
		if !ok {
			return nil, false
		}
		held.put(n, letterBits)
		if held.count >= 8 {
			out = append(out, byte(held.take(8)))
		}
	}
	// Spell puts noughts behind the last bits, and never as many as a whole letter.
	if held.count >= letterBits || held.bits != 0 {
		return nil, false
	}
	return out, true
}

// bitRow is bits that came and were not taken yet; never more than a few.
type bitRow struct {
	bits  uint
	count int
}

// put adds the lowest n bits of x behind the others.
func (r *bitRow) put(x uint, n int) {
	r.bits = r.bits<<n | x
	r.count += n
}

// take removes the first n bits.
func (r *bitRow) take(n int) uint {
	r.count -= n
	x := r.bits >> r.count
	r.bits &= 1<<r.count - 1
	return x
}

// letterNumber is the number of a letter, if it is one.
func letterNumber(c byte) (uint, bool) {
	switch {
	case 'A' <= c && c <= 'Z':
		return uint(c - 'A'), true
	case 'a' <= c && c <= 'z':
		return uint(c-'a') + 26, true
	case '0' <= c && c <= '9':
		return uint(c-'0') + 52, true
	case c == '-':
		return 62, true
	case c == '_':
		return 63, true
	}
	return 0, false
}

// Chars is the place of the first byte with which no character begins that is all there; -1: there is none.
func Chars(b []byte) int {
	for at := 0; at < len(b); {
		r, size := utf8.DecodeRune(b[at:])
		// The character fffd itself has three bytes: a size of one tells that none was there.
		if r == utf8.RuneError && size == 1 {
			return at
		}
		at += size
	}
	return -1
}
