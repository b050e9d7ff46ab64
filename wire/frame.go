package wire

import (
	"bytes"

	"blotter/api"
)

const (
	castagnoli = 0x82f63b78 // the polynomial of CRC-32C, its bits turned round
	headSize   = 3
	sumSize    = 4
)

// Sum is CRC-32C of bytes.
func Sum(b []byte) uint32 {
	c := ^uint32(0)
	for _, x := range b {
		c ^= uint32(x)
		for range 8 {
			odd := c&1 == 1
			c /= 2
			if odd {
				c ^= castagnoli
			}
		}
	}
	return ^c
}

// sumBytes is the sum as it stands in a frame: an array, so that two are compared by ==.
func sumBytes(b []byte) [sumSize]byte {
	s := Sum(b)
	return [sumSize]byte{byte(s >> 24), byte(s >> 16), byte(s >> 8), byte(s)}
}

// Frame is bytes as a frame.
func Frame(b []byte) ([]byte, api.Errno) {
	if len(b) > api.MaxFrame {
		return nil, api.ErrLong
	}
	out := make([]byte, 0, headSize+len(b)+sumSize)
	out = highestFirst(out, uint64(len(b)), headSize)
	out = append(out, b...)
	sum := sumBytes(out)
	return append(out, sum[:]...), api.OK
}

// Unframe is the payload of the frame with which bytes begin, and how many bytes that has.
func Unframe(b []byte) ([]byte, int, api.Errno) {
	if len(b) < headSize {
		return nil, 0, api.ErrShort
	}
	size := int(fromHighest(b[:headSize]))
	if size > api.MaxFrame {
		return nil, 0, api.ErrLong
	}
	end := headSize + size
	if len(b) < end+sumSize {
		return nil, 0, api.ErrShort
	}
	if [sumSize]byte(b[end:end+sumSize]) != sumBytes(b[:end]) {
		return nil, 0, api.ErrSum
	}
	return bytes.Clone(b[headSize:end]), end + sumSize, api.OK
}

// Frames is the payloads of all frames at the beginning of bytes, and how many bytes these have.
func Frames(b []byte) ([][]byte, int) {
	var payloads [][]byte
	at := 0
	for {
		payload, size, e := Unframe(b[at:])
		if e != api.OK {
			return payloads, at
		}
		payloads = append(payloads, payload)
		at += size
	}
}
