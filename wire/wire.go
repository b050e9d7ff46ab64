// Package wire is layer 1: see ../../shared/doc/01-wire.md.
package wire

import "math/bits"

// shortMost is the greatest number whose form is one byte, the number itself.
const shortMost = 247

// Number puts a number behind bytes.
func Number(b []byte, n int) []byte {
	value := uint64(max(n, 0))
	k := bytesBehind(value)
	out := make([]byte, 0, len(b)+1+k)
	out = append(out, b...)
	if k == 0 {
		return append(out, byte(value))
	}
	out = append(out, byte(shortMost+k))
	return highestFirst(out, value, k)
}

// Text puts a text behind bytes.
func Text(b []byte, s string) []byte {
	return append(Number(b, len(s)), s...)
}

// bytesBehind is how many bytes stand behind the first one in a number's form.
func bytesBehind(n uint64) int {
	if n <= shortMost {
		return 0
	}
	return (bits.Len64(n) + 7) / 8
}

// highestFirst puts the lowest k bytes of a number behind bytes that the caller owns.
func highestFirst(own []byte, n uint64, k int) []byte {
	for i := k - 1; i >= 0; i-- {
		own = append(own, byte(n>>(8*i)))
	}
	return own
}

// fromHighest is the number that bytes say, the highest first.
func fromHighest(b []byte) uint64 {
	n := uint64(0)
	for _, x := range b {
		n = n<<8 | uint64(x)
	}
	return n
}
