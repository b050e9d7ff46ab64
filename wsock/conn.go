package wsock

import (
	"blotter/api"
)

// Conn makes messages of frames as their bytes come.
type Conn struct {
	made    bool
	server  bool
	over    bool
	waiting []byte
	op      int    // of the message that has begun; OpMore, while none has
	message []byte // its parts so far
}

// New is a server's end (whose peer masks), or a client's.
func New(server bool) *Conn { return &Conn{made: true, server: server} }

// unmade tells whether New did not make the end.
func (c *Conn) unmade() bool { return c == nil || !c.made }

// Feed hands bytes over.
func (c *Conn) Feed(b []byte) api.Errno {
	switch {
	case c.unmade():
		return api.ErrNil
	case c.over:
		return api.ErrShut
	case len(c.waiting)+len(b) > api.MaxWait:
		return api.ErrFull
	}
	c.waiting = append(c.waiting, b...)
	return api.OK
}

// Next takes off what came next.
func (c *Conn) Next() (api.Event, bool) {
	if c.unmade() {
		return api.Event{}, false
	}
	for {
		f, n, why := Read(c.waiting, c.server)
		switch why {
		case more:
			return api.Event{}, false
		case whole:
			c.waiting = c.waiting[n:]
		default:
			return c.fail(why), true
		}
		if event, ok := c.take(f); ok {
			return event, true
		}
	}
}

// take is what comes of a frame, if it brings something by itself or ends a message.
func (c *Conn) take(f api.Frame) (api.Event, bool) {
	switch f.Op {
	case api.OpPing, api.OpPong:
		return api.Event{Op: f.Op, Load: f.Load}, true
	case api.OpClose:
		return c.shut(f.Load), true
	case api.OpText, api.OpBinary:
		if c.op != api.OpMore {
			return c.fail(badFrame), true
		}
		c.op = f.Op
		fallthrough
	default: // OpMore: Read lets no other kind through
		if c.op == api.OpMore {
			return c.fail(badFrame), true
		}
		return c.join(f)
	}
}

// join puts a part behind the message's others; its last one makes it an event.
func (c *Conn) join(f api.Frame) (api.Event, bool) {
	if len(c.message)+len(f.Load) > api.MaxMessage {
		return c.fail(tooLong), true
	}
	c.message = append(c.message, f.Load...)
	if !f.Fin {
		return api.Event{}, false
	}
	if c.op == api.OpText && !isText(c.message) {
		return c.fail(badText), true
	}
	event := api.Event{Op: c.op, Load: c.message}
	c.op, c.message = api.OpMore, nil
	return event, true
}

// shut is what comes of a close with that load.
func (c *Conn) shut(load []byte) api.Event {
	c.end()
	if len(load) == 0 {
		return api.Event{Op: api.OpClose, Code: withoutCode}
	}
	if len(load) < codeBytes {
		return c.fail(badFrame)
	}
	code, reason := int(fromHighest(load[:codeBytes])), load[codeBytes:]
	switch {
	case !isCode(code):
		return c.fail(badFrame)
	case !isText(reason):
		return c.fail(badText)
	}
	return api.Event{Op: api.OpClose, Code: code, Load: reason}
}

// fail ends it for a reason of its own.
func (c *Conn) fail(code int) api.Event {
	c.end()
	return api.Event{Bad: true, Code: code}
}

// end lets nothing wait and nothing come any more.
func (c *Conn) end() { *c = Conn{made: true, over: true} }

// Waiting is how many bytes were not taken off.
func (c *Conn) Waiting() int {
	if c.unmade() {
		return 0
	}
	return len(c.waiting)
}

// Over tells whether it was closed, or failed.
func (c *Conn) Over() bool { return !c.unmade() && c.over }
