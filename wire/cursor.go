package wire

import (
	"bytes"
	"math"

	"blotter/api"
)

// place is where a cursor stands: how many bytes are behind it.
type place struct{ at int }

// forward goes on by so many bytes.
func (p *place) forward(n int) { p.at += n }

// Cursor goes through bytes.
type Cursor struct {
	place
	bytes []byte
	made  bool // bytes may be nil in a cursor that From made
}

// From is one at the beginning of a copy of bytes.
func From(b []byte) *Cursor {
	return &Cursor{bytes: bytes.Clone(b), made: true}
}

// unmade tells whether From did not make the cursor.
func (c *Cursor) unmade() bool { return c == nil || !c.made }

// left is what was not read yet.
func (c *Cursor) left() []byte { return c.bytes[c.at:] }

// At is how many bytes were read.
func (c *Cursor) At() int {
	if c.unmade() {
		return 0
	}
	return c.at
}

// Byte is the next byte.
func (c *Cursor) Byte() (int, api.Errno) {
	if c.unmade() {
		return 0, api.ErrNil
	}
	left := c.left()
	if len(left) == 0 {
		return 0, api.ErrShort
	}
	c.forward(1)
	return int(left[0]), api.OK
}

// Number is the next number.
func (c *Cursor) Number() (int, api.Errno) {
	if c.unmade() {
		return 0, api.ErrNil
	}
	n, size, e := firstNumber(c.left())
	if e != api.OK {
		return 0, e
	}
	c.forward(size)
	return n, api.OK
}

// Text is the next text, of at most so many bytes.
func (c *Cursor) Text(most int) (string, api.Errno) {
	if c.unmade() {
		return "", api.ErrNil
	}
	left := c.left()
	n, size, e := firstNumber(left)
	if e != api.OK {
		return "", e
	}
	if n > max(most, 0) {
		return "", api.ErrLong
	}
	if n > len(left)-size {
		return "", api.ErrShort
	}
	c.forward(size + n)
	return string(left[size : size+n]), api.OK
}

// Rest is all that is left.
func (c *Cursor) Rest() []byte {
	if c.unmade() {
		return nil
	}
	left := c.left()
	c.forward(len(left))
	return bytes.Clone(left)
}

// End tells whether nothing is left.
func (c *Cursor) End() api.Errno {
	if c.unmade() {
		return api.ErrNil
	}
	if len(c.left()) > 0 {
		return api.ErrMore
	}
	return api.OK
}

// firstNumber is the number with which bytes begin, and how many bytes its form has.
func firstNumber(b []byte) (int, int, api.Errno) {
	if len(b) == 0 {
		return 0, 0, api.ErrShort
	}
	if b[0] <= shortMost {
		return int(b[0]), 1, api.OK
	}
	k := int(b[0]) - shortMost
	if len(b) < 1+k {
		return 0, 0, api.ErrShort
	}
	n := fromHighest(b[1 : 1+k])
	if k > bytesBehind(n) {
		return 0, 0, api.ErrForm
	}
	if n > math.MaxInt64 {
		return 0, 0, api.ErrRange
	}
	return int(n), 1 + k, api.OK
}
