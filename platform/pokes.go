package platform

import (
	"blotter/api"
	"blotter/httpd"
	"blotter/msg"
	"blotter/wsock"
)

// watchKey is by which clients ask for a WebSocket.
const watchKey = "AAAAAAAAAAAAAAAAAAAAAA=="

// pokes is what a client knows of its connection of pokes.
type pokes struct {
	conn   int         // 0: it has none
	came   []byte      // of the answer
	frames *wsock.Conn // what comes behind that; nil: it is still to come
}

// watch asks to be poked, unless that was asked and the connection is there.
func (m *member) watch() {
	if m.world.isThere(m.pokes.conn) {
		return
	}
	m.pokes = pokes{}
	conn, e := m.world.dial(m.node)
	if e != api.OK {
		return
	}
	m.pokes.conn = conn
	b, e := httpd.Print(api.Request{Method: "GET", Path: "/poke", Headers: m.headers(
		api.Header{Name: "upgrade", Value: "websocket"},
		api.Header{Name: "connection", Value: "Upgrade"},
		api.Header{Name: "sec-websocket-version", Value: "13"},
		api.Header{Name: "sec-websocket-key", Value: watchKey},
	)})
	if e != api.OK || !m.send(conn, b) {
		m.unwatch()
	}
}

// unwatch gives the connection of pokes up.
func (m *member) unwatch() {
	m.world.net.Cut(m.pokes.conn)
	m.pokes = pokes{}
}

// takePokes takes the answer, and the frames behind it.
func (m *member) takePokes(b []byte) {
	p := &m.pokes
	if p.frames == nil {
		p.came = append(p.came, b...)
		answer, n, e := httpd.Read(p.came)
		if e == api.ErrShort {
			return
		}
		if e != api.OK || !welcomes(answer) {
			m.unwatch()
			return
		}
		b = p.came[n:]
		p.came, p.frames = nil, wsock.New(false)
	}
	if p.frames.Feed(b) != api.OK {
		m.unwatch()
		return
	}
	for p.frames != nil {
		event, ok := p.frames.Next()
		if !ok {
			return
		}
		m.heed(event)
	}
}

// welcomes tells whether an answer is the one that a server gives to the key.
func welcomes(answer api.Answer) bool {
	want, _ := wsock.Accept(watchKey)
	accept, _ := httpd.Find(answer.Headers, "sec-websocket-accept")
	return answer.Status == switching && accept == want
}

// heed does what an event asks for.
func (m *member) heed(event api.Event) {
	switch {
	case event.Bad || event.Op == api.OpClose:
		m.unwatch()
	case event.Op == api.OpPing:
		pong, e := wsock.Write(api.Frame{Fin: true, Op: api.OpPong, Load: event.Load}, []byte{1, 2, 3, 4})
		if e != api.OK || !m.send(m.pokes.conn, pong) {
			m.unwatch()
		}
	case event.Op == api.OpText:
		m.hear(string(event.Load))
	}
}

// hear ends the waiting, if a text is a poke that says that there is more than the client has.
func (m *member) hear(text string) {
	poke, e := msg.Read(text)
	pull, _ := m.core.Pull()
	if e == api.OK && poke.Kind == api.MPoke && poke.Top > pull.Cookie {
		m.asking.until = 0
	}
}
