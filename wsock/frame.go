package wsock

import (
	"bytes"

	"blotter/api"
	"blotter/wire"
)

// What Read answers of bytes with which no frame begins that is taken; a close says the same codes.
const (
	whole       = 0
	more        = 1
	badFrame    = 1002
	badText     = 1007
	tooLong     = 1009
	withoutCode = 1005
)

const (
	finBit      = 128
	maskBit     = 128
	spareBits   = 64 | 32 | 16
	opBits      = 15
	sizeBits    = 127
	maskBytes   = 4
	codeBytes   = 2
	mostControl = 125
	mostShort   = 125
	inTwo       = 126 // stands for a size that two bytes behind it say
	inEight     = 127
	mostInTwo   = 1<<16 - 1
)

// mayBe tells whether there are frames of that kind, with so many bytes of load.
func mayBe(op int, fin bool, size int) bool {
	switch op {
	case api.OpClose, api.OpPing, api.OpPong:
		if !fin || size > mostControl {
			return false
		}
		fallthrough
	case api.OpMore, api.OpText, api.OpBinary:
		return true
	}
	return false
}

// Write is a frame's bytes.
func Write(f api.Frame, mask []byte) ([]byte, api.Errno) {
	switch {
	case len(mask) != 0 && len(mask) != maskBytes:
		return nil, api.ErrArg
	case !mayBe(f.Op, f.Fin, len(f.Load)):
		return nil, api.ErrFrame
	case len(f.Load) > api.MaxMessage:
		return nil, api.ErrLong
	}
	first, marked := byte(f.Op), byte(0)
	if f.Fin {
		first |= finBit
	}
	if len(mask) > 0 {
		marked = maskBit
	}
	b := []byte{first}
	if size := len(f.Load); size <= mostShort {
		b = append(b, marked|byte(size))
	} else {
		b = append(b, marked|inTwo, byte(size>>8), byte(size))
	}
	return append(append(b, mask...), masked(f.Load, mask)...), api.OK
}

// masked is a copy of bytes under a mask; under the same one again it is those bytes.
func masked(b, mask []byte) []byte {
	out := bytes.Clone(b)
	if len(mask) > 0 {
		for i := range out {
			out[i] ^= mask[i%maskBytes]
		}
	}
	return out
}

// Read is the frame with which bytes begin, and how many it has; else why not.
func Read(b []byte, mask bool) (api.Frame, int, int) {
	f, why := readKind(b, mask)
	if why != whole {
		return api.Frame{}, 0, why
	}
	size, at, why := readSize(b)
	if why != whole {
		return api.Frame{}, 0, why
	}
	load := at
	if mask {
		load += maskBytes
	}
	end := load + size
	if len(b) < end {
		return api.Frame{}, 0, more
	}
	f.Load = masked(b[load:end], b[at:load])
	return f, end, whole
}

// readKind is the frame without its load, as the first two bytes tell it.
func readKind(b []byte, mask bool) (api.Frame, int) {
	if len(b) < 1 {
		return api.Frame{}, more
	}
	f := api.Frame{Fin: b[0]&finBit != 0, Op: int(b[0] & opBits)}
	if b[0]&spareBits != 0 || !mayBe(f.Op, f.Fin, 0) {
		return api.Frame{}, badFrame
	}
	if len(b) < 2 {
		return api.Frame{}, more
	}
	if (b[1]&maskBit != 0) != mask || !mayBe(f.Op, f.Fin, int(b[1]&sizeBits)) {
		return api.Frame{}, badFrame
	}
	return f, whole
}

// readSize is how many bytes of load the bytes from the second on say, and the place behind that.
func readSize(b []byte) (size, at, why int) {
	n, at, least := uint64(b[1]&sizeBits), 2, uint64(0)
	switch n {
	case inTwo:
		at, least = 2+2, mostShort+1
	case inEight:
		at, least = 2+8, mostInTwo+1
	}
	if len(b) < at {
		return 0, 0, more
	}
	if at > 2 {
		n = fromHighest(b[2:at])
	}
	switch {
	case n < least || n >= 1<<63:
		return 0, 0, badFrame
	case n > api.MaxMessage:
		return 0, 0, tooLong
	}
	return int(n), at, whole
}

// fromHighest is the number of bytes of which the highest stands first.
func fromHighest(b []byte) uint64 {
	n := uint64(0)
	for _, c := range b {
		n = n<<8 | uint64(c)
	}
	return n
}

// Text is a close's load.
func Text(code int, reason string) ([]byte, api.Errno) {
	switch {
	case !isCode(code):
		return nil, api.ErrArg
	case !isText([]byte(reason)):
		return nil, api.ErrFrame
	case len(reason) > mostControl-codeBytes:
		return nil, api.ErrLong
	}
	return append([]byte{byte(code >> 8), byte(code)}, reason...), api.OK
}

// isCode tells whether a close may have that code.
func isCode(n int) bool {
	return 1000 <= n && n <= 1003 || 1007 <= n && n <= 1011 || 3000 <= n && n <= 4999
}

// isText tells whether bytes are whole characters.
func isText(b []byte) bool { return wire.Chars(b) < 0 }
