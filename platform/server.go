package platform

import (
	"blotter/api"
	"blotter/httpd"
	"blotter/msg"
	"blotter/sequencer"
	"blotter/wsock"
)

// What httpd says of bytes that came, and the status behind which they are frames.
const (
	wholeRequest = 0
	moreToCome   = 1
	switching    = 101
)

// noCode is what a close without a code is told as: no close says it.
const noCode = 1005

// server is the machine to which all others talk.
type server struct {
	box
	core  *sequencer.Server // nil: it does not run
	conns map[int]*served   // those on which something came
}

// served is what the server knows of a connection: what reads it, requests at first, then perhaps frames. With neither, it is closed, and read no more.
type served struct {
	conn     int
	requests *httpd.Parser
	frames   *wsock.Conn
}

func (s *server) runs() bool { return s.core != nil }

func (s *server) start() api.Errno {
	core, e := sequencer.Open(s.disk)
	if e != api.OK {
		return e
	}
	s.core, s.conns = core, map[int]*served{}
	return api.OK
}

func (s *server) crash(keep []bool, tear int) {
	s.lose(keep, tear)
	*s = server{box: s.box}
}

func (s *server) compact() api.Errno { return s.core.Compact() }

// forgetGone forgets connections that are there no more.
func (s *server) forgetGone() {
	for conn := range s.conns {
		if !s.world.isThere(conn) {
			delete(s.conns, conn)
		}
	}
}

func (s *server) take(conn int, b []byte) {
	c, ok := s.conns[conn]
	if !ok {
		c = &served{conn: conn, requests: httpd.New()}
		s.conns[conn] = c
	}
	switch {
	case c.requests != nil:
		s.takeRequests(c, b)
	case c.frames != nil:
		s.takeFrames(c, b)
	}
}

// takeRequests answers the requests that are whole by now.
func (s *server) takeRequests(c *served, b []byte) {
	if c.requests.Feed(b) != api.OK {
		s.cut(c)
		return
	}
	for c.requests != nil {
		r, status := c.requests.Next()
		if status == moreToCome {
			return
		}
		top := s.core.Top()
		a := s.answer(r, status)
		if bytes, e := httpd.Write(a); e != api.OK || !s.send(c.conn, bytes) {
			s.cut(c)
			return
		}
		if s.core.Top() > top {
			s.poke()
		}
		switch {
		case status != wholeRequest || !httpd.Keeps(r):
			s.closeEnd(c)
		case a.Status == switching:
			s.switchOver(c)
		}
	}
}

// answer is what is said to a request, or to bytes that a status refuses.
func (s *server) answer(r api.Request, status int) api.Answer {
	if status != wholeRequest {
		return api.Answer{Status: status}
	}
	return s.core.Handle(s.world.secrets, s.world.now, r)
}

// poke says how many mutations there are, on each connection that asked for it.
func (s *server) poke() {
	text, _ := msg.Write(api.Msg{Kind: api.MPoke, Top: s.core.Top()})
	for _, conn := range s.world.net.Conns() {
		if c := s.conns[conn]; c != nil && c.frames != nil {
			s.tell(c, api.OpText, []byte(text))
		}
	}
}

// tell sends a frame; where that can't be, the connection is cut: false.
func (s *server) tell(c *served, op int, load []byte) bool {
	b, e := wsock.Write(api.Frame{Fin: true, Op: op, Load: load}, nil)
	if e != api.OK || !s.send(c.conn, b) {
		s.cut(c)
		return false
	}
	return true
}

// switchOver reads frames from now on, of which some may have come already.
func (s *server) switchOver(c *served) {
	rest := c.requests.Rest()
	c.requests, c.frames = nil, wsock.New(true)
	s.takeFrames(c, rest)
}

// takeFrames heeds what frames that are whole by now tell.
func (s *server) takeFrames(c *served, b []byte) {
	if c.frames.Feed(b) != api.OK {
		s.cut(c)
		return
	}
	for c.frames != nil {
		event, ok := c.frames.Next()
		if !ok {
			return
		}
		s.heed(c, event)
	}
}

// heed does what an event asks for.
func (s *server) heed(c *served, event api.Event) {
	switch {
	case event.Bad || event.Op == api.OpClose:
		if s.tell(c, api.OpClose, closeLoad(event.Code)) {
			s.closeEnd(c)
		}
	case event.Op == api.OpPing:
		s.tell(c, api.OpPong, event.Load)
	}
}

// closeLoad is what a close with a code has as its Load.
func closeLoad(code int) []byte {
	if code == noCode {
		return nil
	}
	load, _ := wsock.Text(code, "")
	return load
}

// closeEnd says that nothing more is sent, and reads no more.
func (s *server) closeEnd(c *served) {
	s.world.net.Close(c.conn, s.node)
	c.requests, c.frames = nil, nil
}

// cut takes a connection away, and reads no more of it.
func (s *server) cut(c *served) {
	s.world.net.Cut(c.conn)
	c.requests, c.frames = nil, nil
}
