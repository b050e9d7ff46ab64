package link

import "bytes"

// conn is a connection: its two ends, the one that dialled first.
type conn [2]end

// end is one side of a connection.
type end struct {
	node   int
	closed bool   // it sends no more
	coming []byte // what is on the way to it
}

// side is which end a machine is; -1: none.
func (c *conn) side(node int) int {
	for i, e := range c {
		if e.node == node {
			return i
		}
	}
	return -1
}

// over tells whether both ends are closed and nothing is on the way.
func (c *conn) over() bool {
	for _, e := range c {
		if !e.closed || len(e.coming) > 0 {
			return false
		}
	}
	return true
}

// take is the next bytes on the way to an end, at most so many.
func (e *end) take(most int) []byte {
	n := min(most, len(e.coming))
	b := bytes.Clone(e.coming[:n])
	e.coming = e.coming[n:]
	if len(e.coming) == 0 {
		// The room of what was carried is not held on to.
		e.coming = nil
	}
	return b
}
