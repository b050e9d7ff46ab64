package wsock_test

import (
	"bytes"
	"math/rand"
	"strings"
	"testing"
	"unicode/utf8"

	"blotter/api"
	"blotter/wsock"
)

// frame is a frame of a text.
func frame(fin bool, op int, load string) api.Frame {
	return api.Frame{Fin: fin, Op: op, Load: []byte(load)}
}

// stream is the bytes of frames, each with its own mask, if they are for a server.
func stream(server bool, frames ...api.Frame) []byte {
	var b []byte
	for i, f := range frames {
		var mask []byte
		if server {
			mask = []byte{byte(i), 0x5a, byte(len(f.Load)), 0xff}
		}
		b = append(b, bytesOf(f, mask)...)
	}
	return b
}

func sameEvent(x, y api.Event) bool {
	return x.Op == y.Op && x.Code == y.Code && x.Bad == y.Bad && bytes.Equal(x.Load, y.Load)
}

func sameEvents(x, y []api.Event) bool {
	if len(x) != len(y) {
		return false
	}
	for i := range x {
		if !sameEvent(x[i], y[i]) {
			return false
		}
	}
	return true
}

// drain is all events that come now.
func drain(t *testing.T, c *wsock.Conn) []api.Event {
	t.Helper()
	var l []api.Event
	for {
		x, ok := c.Next()
		if !ok {
			if !sameEvent(x, api.Event{}) {
				t.Errorf("an event beside false: %v", x)
			}
			return l
		}
		l = append(l, x)
	}
}

func bad(code int) api.Event { return api.Event{Code: code, Bad: true} }

func text(s string) api.Event { return api.Event{Op: api.OpText, Load: []byte(s)} }

func binaryOf(s string) api.Event { return api.Event{Op: api.OpBinary, Load: []byte(s)} }

func closed(code int, reason string) api.Event {
	return api.Event{Op: api.OpClose, Code: code, Load: []byte(reason)}
}

func TestP9_5Next(t *testing.T) {
	half := strings.Repeat("x", api.MaxMessage/2)
	for _, x := range []struct {
		name   string
		frames []api.Frame
		want   []api.Event
		over   bool
	}{
		{"nothing", nil, nil, false},
		{"a text", []api.Frame{frame(true, api.OpText, "é")}, []api.Event{text("é")}, false},
		{"an empty text", []api.Frame{frame(true, api.OpText, "")}, []api.Event{text("")}, false},
		{"other bytes", []api.Frame{frame(true, api.OpBinary, "\xff\x00")}, []api.Event{binaryOf("\xff\x00")}, false},
		{"ping and pong", []api.Frame{frame(true, api.OpPing, "\xff"), frame(true, api.OpPong, "")}, []api.Event{{Op: api.OpPing, Load: []byte("\xff")}, {Op: api.OpPong}}, false},
		{"parts", []api.Frame{frame(false, api.OpText, "a"), frame(false, api.OpMore, "b"), frame(true, api.OpMore, "c"), frame(true, api.OpBinary, "d")}, []api.Event{text("abc"), binaryOf("d")}, false},
		{"parts without bytes", []api.Frame{frame(false, api.OpBinary, ""), frame(false, api.OpMore, ""), frame(true, api.OpMore, "")}, []api.Event{binaryOf("")}, false},
		{"a ping between", []api.Frame{frame(false, api.OpText, "a"), frame(true, api.OpPing, "p"), frame(true, api.OpMore, "b")}, []api.Event{{Op: api.OpPing, Load: []byte("p")}, text("ab")}, false},
		{"a message begun", []api.Frame{frame(false, api.OpText, "a"), frame(false, api.OpMore, "b")}, nil, false},
		{"a character in two parts", []api.Frame{frame(false, api.OpText, "\xc3"), frame(true, api.OpMore, "\xa9")}, []api.Event{text("é")}, false},
		{"a character that has no end", []api.Frame{frame(false, api.OpText, "\xc3"), frame(true, api.OpMore, "")}, []api.Event{bad(1007)}, true},
		{"no characters", []api.Frame{frame(true, api.OpText, "a\xff"), frame(true, api.OpText, "b")}, []api.Event{bad(1007)}, true},
		{"no characters, not ended", []api.Frame{frame(false, api.OpText, "\xff"), frame(true, api.OpPong, "")}, []api.Event{{Op: api.OpPong}}, false},
		{"a text in a text", []api.Frame{frame(false, api.OpText, "a"), frame(true, api.OpText, "b")}, []api.Event{bad(1002)}, true},
		{"a binary in a text", []api.Frame{frame(false, api.OpText, "a"), frame(true, api.OpBinary, "b")}, []api.Event{bad(1002)}, true},
		{"a text in an empty binary", []api.Frame{frame(false, api.OpBinary, ""), frame(true, api.OpText, "b")}, []api.Event{bad(1002)}, true},
		{"more of nothing", []api.Frame{frame(true, api.OpMore, "a")}, []api.Event{bad(1002)}, true},
		{"more of nothing, not ended", []api.Frame{frame(false, api.OpMore, "a")}, []api.Event{bad(1002)}, true},
		{"more behind the end", []api.Frame{frame(true, api.OpText, "a"), frame(true, api.OpMore, "b")}, []api.Event{text("a"), bad(1002)}, true},
		{"as long as may be", []api.Frame{frame(false, api.OpText, half), frame(false, api.OpMore, half), frame(true, api.OpMore, "")}, []api.Event{text(half + half)}, false},
		{"one byte too long", []api.Frame{frame(false, api.OpText, half), frame(false, api.OpMore, half), frame(false, api.OpMore, "x")}, []api.Event{bad(1009)}, true},
		{"too long and no text", []api.Frame{frame(false, api.OpText, half), frame(true, api.OpMore, half+"\xff")}, []api.Event{bad(1009)}, true},
		{"long ones one behind the other", []api.Frame{frame(true, api.OpBinary, half+half), frame(true, api.OpBinary, half+half)}, []api.Event{binaryOf(half + half), binaryOf(half + half)}, false},
		{"a close without a load", []api.Frame{frame(true, api.OpClose, ""), frame(true, api.OpText, "a")}, []api.Event{closed(1005, "")}, true},
		{"a close of one byte", []api.Frame{frame(true, api.OpClose, "\x03")}, []api.Event{bad(1002)}, true},
		{"a close of a code", []api.Frame{frame(true, api.OpClose, "\x03\xe8")}, []api.Event{closed(1000, "")}, true},
		{"a close with a reason", []api.Frame{frame(true, api.OpClose, "\x13\x87bye é")}, []api.Event{closed(4999, "bye é")}, true},
		{"the longest reason", []api.Frame{frame(true, api.OpClose, "\x0b\xb8"+half[:123])}, []api.Event{closed(3000, half[:123])}, true},
		{"no code", []api.Frame{frame(true, api.OpClose, "\x03\xe7")}, []api.Event{bad(1002)}, true},
		{"the code of none", []api.Frame{frame(true, api.OpClose, "\x03\xedx")}, []api.Event{bad(1002)}, true},
		{"no code and no characters", []api.Frame{frame(true, api.OpClose, "\xff\xff\xff")}, []api.Event{bad(1002)}, true},
		{"a reason of no characters", []api.Frame{frame(true, api.OpClose, "\x03\xe8\xc3")}, []api.Event{bad(1007)}, true},
		{"a close in a message", []api.Frame{frame(false, api.OpText, "a"), frame(true, api.OpClose, "\x03\xe9"), frame(true, api.OpMore, "b")}, []api.Event{closed(1001, "")}, true},
	} {
		for _, server := range []bool{false, true} {
			c := wsock.New(server)
			if c.Over() || c.Waiting() != 0 {
				t.Fatal("a new one is over, or something waits")
			}
			b := stream(server, x.frames...)
			if e := c.Feed(b); e != api.OK || c.Waiting() != len(b) || c.Over() {
				t.Fatalf("%s: error %d, %d of %d wait", x.name, e, c.Waiting(), len(b))
			}
			if got := drain(t, c); !sameEvents(got, x.want) || c.Over() != x.over || c.Waiting() != 0 {
				t.Errorf("%s: %v, over %v, %d wait", x.name, got, c.Over(), c.Waiting())
			}
			wantFeed := api.OK
			if x.over {
				wantFeed = api.ErrShut
			}
			if e := c.Feed([]byte{0x81}); e != wantFeed || c.Feed(nil) != wantFeed {
				t.Errorf("%s: Feed behind it: error %d", x.name, e)
			}
			if got := drain(t, c); len(got) != 0 || c.Over() != x.over {
				t.Errorf("%s: %v behind the end", x.name, got)
			}
		}
	}
}

// What Read refuses fails with its code; a server wants masks, a client none.
func TestP9_5Refused(t *testing.T) {
	for _, x := range []struct {
		server bool
		b      []byte
		code   int
	}{
		{true, []byte{0x81, 5}, 1002},
		{false, []byte{0x81, 0x85}, 1002},
		{false, []byte{9, 0}, 1002},
		{false, []byte{0x83}, 1002},
		{true, []byte{0x82, 0xfe, 0x40, 1}, 1009},
		{false, []byte{0x82, 126, 0, 1}, 1002},
	} {
		c := wsock.New(x.server)
		c.Feed(append(stream(x.server, frame(false, api.OpText, "a"), frame(true, api.OpPong, "")), x.b...))
		c.Next()
		if got, ok := c.Next(); !ok || !sameEvent(got, bad(x.code)) || !c.Over() || c.Waiting() != 0 || c.Feed(x.b) != api.ErrShut {
			t.Errorf("% x: %v, %v", x.b, got, ok)
		}
	}
}

// Bytes that no frame is made of yet wait; those of a message's parts do not.
func TestP9_5Waiting(t *testing.T) {
	c := wsock.New(false)
	c.Feed([]byte("\x01\x01a\x89\x02p"))
	if got := drain(t, c); len(got) != 0 || c.Waiting() != 3 {
		t.Errorf("%v, %d wait", got, c.Waiting())
	}
	c.Feed([]byte("q\x80"))
	if c.Waiting() != 5 {
		t.Errorf("%d wait", c.Waiting())
	}
	if got, ok := c.Next(); !ok || string(got.Load) != "pq" || c.Waiting() != 1 {
		t.Errorf("%v, %d wait", got, c.Waiting())
	}
	c.Feed([]byte("\x00\x8a"))
	if got, ok := c.Next(); !ok || !sameEvent(got, text("a")) || c.Waiting() != 1 {
		t.Errorf("%v, %d wait", got, c.Waiting())
	}
}

func TestP9_5Full(t *testing.T) {
	c := wsock.New(false)
	pings := bytes.Repeat([]byte{0x89, 0}, api.MaxWait/2)
	if c.Feed(append(pings, 0)) != api.ErrFull || c.Waiting() != 0 {
		t.Error("one byte too many at once")
	}
	if c.Feed(pings[:api.MaxWait-2]) != api.OK || c.Feed([]byte{0x89, 0, 0}) != api.ErrFull || c.Waiting() != api.MaxWait-2 {
		t.Error("one byte too many behind others")
	}
	if c.Feed([]byte{0x8a, 0}) != api.OK || c.Feed(nil) != api.OK || c.Feed([]byte{0}) != api.ErrFull || c.Waiting() != api.MaxWait {
		t.Error("as many as may wait")
	}
	c.Next()
	if c.Waiting() != api.MaxWait-2 || c.Feed([]byte{0x89, 0}) != api.OK {
		t.Error("no room behind a frame that was taken")
	}
	if got := drain(t, c); len(got) != api.MaxWait/2 || got[api.MaxWait/2-2].Op != api.OpPong {
		t.Errorf("%d frames", len(got))
	}
	c.Feed([]byte{0x88, 0})
	c.Next()
	if c.Feed(make([]byte, api.MaxWait+1)) != api.ErrShut {
		t.Error("ErrShut comes ahead of ErrFull")
	}
}

func TestP9_5Unmade(t *testing.T) {
	for name, c := range map[string]*wsock.Conn{"nil": nil, "zero": {}} {
		if c.Feed(nil) != api.ErrNil || c.Feed(make([]byte, api.MaxWait+1)) != api.ErrNil {
			t.Errorf("%s: Feed", name)
		}
		if x, ok := c.Next(); ok || !sameEvent(x, api.Event{}) || c.Waiting() != 0 || c.Over() {
			t.Errorf("%s: something comes", name)
		}
	}
}

func TestP9_5Memory(t *testing.T) {
	for _, server := range []bool{false, true} {
		b := stream(server, frame(true, api.OpPing, "ping"), frame(false, api.OpText, "te"), frame(true, api.OpMore, "xt"), frame(true, api.OpBinary, "other"), frame(true, api.OpClose, "\x03\xe8bye"))
		want := []string{"ping", "text", "other", "bye"}
		r := roomy(b)
		c, other := wsock.New(server), wsock.New(server)
		c.Feed(r)
		other.Feed(r)
		if !untouched(r, b) {
			t.Error("Feed changes what it is given")
		}
		clear(r[:cap(r)])
		for _, w := range want {
			x, _ := c.Next()
			y, _ := other.Next()
			if string(x.Load) != w {
				t.Errorf("%q, want %q: memory is shared", x.Load, w)
			}
			clear(x.Load[:cap(x.Load)])
			if string(y.Load) != w {
				t.Errorf("%q of another one, want %q", y.Load, w)
			}
		}
	}
}

// model is what frames lead to, as the document's list says it, frame by frame.
type model struct {
	begun bool
	op    int
	parts []byte
	over  bool
	out   []api.Event
}

func (m *model) tell(x api.Event, over bool) {
	m.out = append(m.out, x)
	m.over = over
}

func (m *model) take(f api.Frame) {
	starts := f.Op == api.OpText || f.Op == api.OpBinary
	switch {
	case m.over:
	case f.Op == api.OpPing || f.Op == api.OpPong:
		m.tell(api.Event{Op: f.Op, Load: f.Load}, false)
	case f.Op == api.OpClose && len(f.Load) == 0:
		m.tell(api.Event{Op: f.Op, Code: 1005}, true)
	case f.Op == api.OpClose && len(f.Load) == 1:
		m.tell(bad(1002), true)
	case f.Op == api.OpClose:
		code := int(f.Load[0])*256 + int(f.Load[1])
		if _, e := wsock.Text(code, ""); e != api.OK {
			m.tell(bad(1002), true)
		} else if !utf8.Valid(f.Load[2:]) {
			m.tell(bad(1007), true)
		} else {
			m.tell(api.Event{Op: f.Op, Code: code, Load: f.Load[2:]}, true)
		}
	case starts == m.begun:
		m.tell(bad(1002), true)
	default:
		if starts {
			m.begun, m.op, m.parts = true, f.Op, nil
		}
		m.parts = append(m.parts, f.Load...)
		if len(m.parts) > 1<<14 {
			m.tell(bad(1009), true)
		} else if f.Fin && m.op == api.OpText && !utf8.Valid(m.parts) {
			m.tell(bad(1007), true)
		} else if f.Fin {
			m.tell(api.Event{Op: m.op, Load: m.parts}, false)
			m.begun, m.parts = false, nil
		}
	}
}

// likely is a frame that mostly fits to what came ahead of it.
func (m *model) likely(r *rand.Rand) api.Frame {
	f := api.Frame{Fin: r.Intn(2) > 0, Op: []int{api.OpText, api.OpBinary}[r.Intn(2)]}
	if m.begun {
		f.Op = api.OpMore
	}
	if r.Intn(40) == 0 {
		f.Op = r.Intn(3)
	}
	words := []string{"", "a", "é", "€uro", "\xc3", "\xa9", "\U0001f600", strings.Repeat("long ", 30), strings.Repeat("é", 4000), strings.Repeat("€", 4000)}
	f.Load = []byte(words[r.Intn(len(words))])
	switch r.Intn(8) {
	case 0:
		f = api.Frame{Fin: true, Op: api.OpPing + r.Intn(2), Load: []byte(words[r.Intn(7)])}
	case 1:
		f = api.Frame{Fin: true, Op: api.OpPong}
	case 2:
		if r.Intn(5) == 0 {
			loads := []string{"", "\x03", "\x03\xe8", "\x03\xedx", "\x0f\xa0ok", "\x03\xf3\xff"}
			f = api.Frame{Fin: true, Op: api.OpClose, Load: []byte(loads[r.Intn(len(loads))])}
		}
	}
	return f
}

// feedInPieces feeds bytes in pieces of random sizes and is all events, which are asked for now and then.
func feedInPieces(t *testing.T, r *rand.Rand, c *wsock.Conn, b []byte, most int) []api.Event {
	t.Helper()
	var l []api.Event
	for len(b) > 0 {
		n := min(1+r.Intn(most), len(b))
		e := c.Feed(b[:n])
		if e == api.OK {
			b = b[n:]
		} else if e == api.ErrShut {
			return l
		}
		if e == api.ErrFull || r.Intn(2) == 0 {
			l = append(l, drain(t, c)...)
		}
	}
	return append(l, drain(t, c)...)
}

func TestP9_8InPieces(t *testing.T) {
	r := rand.New(rand.NewSource(4))
	told := map[int]int{}
	for range 600 {
		server := r.Intn(2) == 0
		var m model
		var frames []api.Frame
		for range 1 + r.Intn(30) {
			f := m.likely(r)
			frames = append(frames, f)
			m.take(f)
		}
		b := stream(server, frames...)
		for _, most := range []int{1, 7, 400, 60000} {
			c := wsock.New(server)
			if got := feedInPieces(t, r, c, b, most); !sameEvents(got, m.out) || c.Over() != m.over || c.Waiting() != 0 {
				t.Fatalf("in pieces of at most %d: %d events, over %v; want %d, over %v", most, len(got), c.Over(), len(m.out), m.over)
			}
		}
		for _, x := range m.out {
			told[x.Op*10000+x.Code]++
		}
	}
	for _, k := range []int{1002, 1007, 1009, 10000, 20000, 90000, 100000, 81005, 81000, 84000} {
		if told[k] == 0 {
			t.Errorf("no event %d came", k)
		}
	}
}

func TestP9_9Parts(t *testing.T) {
	r := rand.New(rand.NewSource(5))
	for range 500 {
		message := strings.Repeat("é€a", r.Intn(900))
		op := api.OpText + r.Intn(2)
		var frames []api.Frame
		controls := 0
		for rest, first := message, op; ; first = api.OpMore {
			n := r.Intn(len(rest) + 1)
			if r.Intn(3) == 0 {
				frames = append(frames, frame(true, first, rest))
				break
			}
			frames = append(frames, frame(false, first, rest[:n]))
			rest = rest[n:]
			if r.Intn(2) == 0 {
				frames = append(frames, frame(true, api.OpPing+r.Intn(2), "between"))
				controls++
			}
		}
		c := wsock.New(true)
		c.Feed(stream(true, frames...))
		got := drain(t, c)
		if len(got) != controls+1 || !sameEvent(got[controls], api.Event{Op: op, Load: []byte(message)}) {
			t.Fatalf("%d frames of a message of %d bytes: %d events", len(frames), len(message), len(got))
		}
	}
}

func TestP9_10Closed(t *testing.T) {
	for _, code := range []int{1000, 1001, 1002, 1003, 1007, 1008, 1009, 1010, 1011, 3000, 3999, 4000, 4999} {
		for _, reason := range []string{"", "bye", strings.Repeat("é", 61) + "!"} {
			load, _ := wsock.Text(code, reason)
			b, _ := wsock.Write(api.Frame{Fin: true, Op: api.OpClose, Load: load}, masks[4])
			c := wsock.New(true)
			c.Feed(b)
			if got, ok := c.Next(); !ok || !sameEvent(got, closed(code, reason)) || !c.Over() {
				t.Errorf("%d, %q: %v, %v", code, reason, got, ok)
			}
		}
	}
}

// Whatever bytes come: nothing too long, no text but of whole characters, and the same in other pieces.
func lookAt(t *testing.T, r *rand.Rand, server bool, b []byte) {
	t.Helper()
	c, d := wsock.New(server), wsock.New(server)
	got := feedInPieces(t, r, c, b, 3)
	if again := feedInPieces(t, r, d, b, len(b)+1); !sameEvents(got, again) || c.Over() != d.Over() || c.Waiting() != d.Waiting() {
		t.Fatalf("% x: %v, and in other pieces %v", b, got, again)
	}
	for i, x := range got {
		isText := x.Op == api.OpText || x.Op == api.OpClose
		if len(x.Load) > api.MaxMessage || isText && !utf8.Valid(x.Load) {
			t.Fatalf("% x: %v", b, x)
		}
		if ends := x.Bad || x.Op == api.OpClose; ends && i < len(got)-1 || ends && !c.Over() {
			t.Fatalf("% x: more behind the end", b)
		}
	}
}

func TestP9_11Bounded(t *testing.T) {
	r := rand.New(rand.NewSource(6))
	for range 20000 {
		b := make([]byte, r.Intn(40))
		for i := range b {
			b[i] = []byte{0x81, 0x01, 0x80, 0x00, 0x89, 0x88, 0x02, 0x82, 126, 254, 3, 'a', 0xc3, 0xa9, byte(r.Intn(256))}[r.Intn(15)]
		}
		lookAt(t, r, r.Intn(2) == 0, b)
	}
}

func FuzzConn(f *testing.F) {
	f.Add([]byte("\x01\x01\xc3\x89\x00\x80\x01\xa9\x88\x02\x03\xe8"), false, int64(1))
	f.Add([]byte("\x81\x81\x01\x02\x03\x04a\x88\x80aaaa"), true, int64(2))
	f.Fuzz(func(t *testing.T, b []byte, server bool, seed int64) {
		lookAt(t, rand.New(rand.NewSource(seed)), server, b)
	})
}
