package platform

import (
	"blotter/api"
	"blotter/disk"
)

// machine is what crashes and starts: the server, a client.
type machine interface {
	runs() bool
	start() api.Errno
	crash(keep []bool, tear int)
	compact() api.Errno
	take(conn int, b []byte) // bytes that come
}

// box is a machine without what it knows: what is left of it behind a crash.
type box struct {
	world *World
	node  int
	disk  *disk.Disk
}

// lose takes away what a crash takes away: the connections, and what of the disk does not last.
func (b box) lose(keep []bool, tear int) {
	b.world.net.Drop(b.node)
	b.disk.Crash(keep, tear)
}

// send puts bytes on the way; false, if it could not.
func (b box) send(conn int, bytes []byte) bool {
	return b.world.net.Send(conn, b.node, bytes) == api.OK
}

// machine is the one of a number; nil, if there is none, as of somebody else.
func (w *World) machine(node int) machine {
	switch {
	case node == serverNode:
		return w.server
	case 0 < node && node <= len(w.clients):
		return w.client(node)
	}
	return nil
}

// down is why a machine does not run, or nil.
func (w *World) down(node int) error {
	m := w.machine(node)
	switch {
	case m == nil:
		return api.ErrStep
	case !m.runs():
		return api.ErrDown
	}
	return nil
}

// dial connects a machine with the server.
func (w *World) dial(node int) (int, api.Errno) {
	if !w.server.runs() {
		return 0, api.ErrDown
	}
	return w.net.Dial(node, serverNode)
}

// isThere tells whether there is a connection. No number comes twice, so one that was cut is never taken for another.
func (w *World) isThere(conn int) bool {
	_, _, e := w.net.Ends(conn)
	return e == api.OK
}
