package platform

import (
	"math"
	"reflect"
	"slices"
	"testing"

	"blotter/api"
	"blotter/client"
	"blotter/msg"
)

// The document's example.
func TestP16Example(t *testing.T) {
	w, e := New(1, 100000)
	if e != api.OK {
		t.Fatal(e)
	}
	mutate(t, w, 1, create("a"))
	w.Round()
	if top := w.Server().Top(); top != 1 {
		t.Fatalf("Top is %d", top)
	}
	w.Round()
	if l := w.Client(1).Pending(); len(l) != 0 {
		t.Fatalf("%v waits", l)
	}
	for _, conn := range w.Conns() {
		want(t, w, api.Step{Kind: api.SForge, Conn: conn, Bytes: []byte("x")}, api.ErrArg)
	}
	if len(w.Conns()) != 1 {
		t.Fatalf("%v", w.Conns())
	}
}

func TestP16_1New(t *testing.T) {
	for _, x := range []struct {
		clients, room int
		e             api.Errno
	}{
		{1, 0, api.OK}, {8, api.MaxRoom, api.OK}, {1, api.MaxRoom, api.OK}, {8, 0, api.OK},
		{0, 1000, api.ErrArg}, {9, 1000, api.ErrArg}, {-1, 1000, api.ErrArg}, {math.MinInt, 1000, api.ErrArg}, {math.MaxInt, 1000, api.ErrArg},
		{1, -1, api.ErrArg}, {1, api.MaxRoom + 1, api.ErrArg}, {0, -1, api.ErrArg}, {8, math.MaxInt, api.ErrArg},
	} {
		w, e := New(x.clients, x.room)
		if e != x.e || (w == nil) != (e != api.OK) {
			t.Fatalf("New(%d, %d) is %v, error %d; want %d", x.clients, x.room, w, e, x.e)
		}
		if w == nil {
			continue
		}
		if w.Now() != 0 || w.Clients() != x.clients || w.Server() == nil || len(w.Conns()) != 0 || w.Server().Top() != 0 {
			t.Errorf("New(%d, %d): %v", x.clients, x.room, tells(w))
		}
		for node := 1; node <= x.clients; node++ {
			if p, has := w.Client(node).Pull(); !has || p.Client != Name(node) || p.Cookie != 0 || len(w.Client(node).Pending()) != 0 {
				t.Errorf("client %d pulls %v", node, p)
			}
		}
		for _, node := range []int{0, -1, x.clients + 1, 15, math.MinInt, math.MaxInt} {
			if w.Client(node) != nil {
				t.Errorf("there is a client %d of %d", node, x.clients)
			}
		}
	}
}

// Each disk has its own room: what one machine writes takes none of another's.
func TestP16_1Room(t *testing.T) {
	m := create("a")
	text, _ := msg.Put(api.Logged{Client: "c1", ID: 1, M: m})
	for room, e := range map[int]api.Errno{len(text): api.ErrFull, 2 * len(text): api.OK, 0: api.ErrFull} {
		w := newWorldWith(t, 2, room)
		want(t, w, api.Step{Kind: api.SMutate, Node: 1, M: m}, e)
		want(t, w, api.Step{Kind: api.SMutate, Node: 2, M: m}, e)
	}
}

func TestP16_1Name(t *testing.T) {
	for node, name := range map[int]string{
		0: "c0", 1: "c1", 8: "c8", 15: "c15", 100: "c100", -1: "c-1",
		math.MaxInt: "c9223372036854775807", math.MinInt: "c-9223372036854775808",
	} {
		if got := Name(node); got != name {
			t.Errorf("Name(%d) is %q", node, got)
		}
	}
}

// The server and the clients are told themselves; none where they do not run.
func TestP16_1Themselves(t *testing.T) {
	w := newWorld(t, 2)
	s, c := w.Server(), w.Client(2)
	if s != w.Server() || c != w.Client(2) || c == w.Client(1) {
		t.Fatal("others each time")
	}
	if _, err := c.Mutate(create("a")); err != nil {
		t.Fatal(err)
	}
	w.Round()
	if s.Top() != 1 || len(c.Pending()) != 1 {
		t.Fatal("what was wanted of the client itself is not in the world")
	}
	crash(t, w, 2)
	crash(t, w, 0)
	if w.Server() != nil || w.Client(2) != nil || w.Client(1) == nil {
		t.Fatal("there is one that does not run")
	}
	start(t, w, 2)
	start(t, w, 0)
	if w.Server() == nil || w.Client(2) == nil || w.Server() == s || w.Client(2) == c {
		t.Fatal("one that was started is not there anew")
	}
}

func TestP16_1Links(t *testing.T) {
	w := newWorld(t, 2)
	act(t, w, 2)
	dial(t, w)
	if l := w.Conns(); !slices.Equal(l, []int{1, 2}) {
		t.Fatalf("%v", l)
	}
	for conn, who := range map[int]int{1: 2, 2: 15} {
		if a, b, e := w.Ends(conn); a != who || b != 0 || e != api.OK {
			t.Errorf("connection %d is from %d to %d, error %d", conn, a, b, e)
		}
	}
	if n, e := w.Waiting(1, 0); n != len(post("/pull", tokenOf(t, "c2", 1), `{"client":"c2","cookie":0,"type":"pull"}`)) || e != api.OK {
		t.Errorf("%d wait, error %d", n, e)
	}
	for _, x := range []struct {
		conn, to int
		e        api.Errno
	}{{1, 2, api.OK}, {1, 1, api.ErrArg}, {1, 15, api.ErrArg}, {3, 0, api.ErrConn}, {0, 0, api.ErrConn}, {-1, 99, api.ErrConn}} {
		if n, e := w.Waiting(x.conn, x.to); n != 0 || e != x.e {
			t.Errorf("Waiting(%d, %d) is %d, error %d; want %d", x.conn, x.to, n, e, x.e)
		}
	}
	if a, b, e := w.Ends(3); a != 0 || b != 0 || e != api.ErrConn {
		t.Errorf("%d, %d, error %d", a, b, e)
	}
	l := w.Conns()
	l[0], l[1] = 7, 7
	if !slices.Equal(w.Conns(), []int{1, 2}) {
		t.Error("what is told is the world's own")
	}
}

// A world that no call made.
func TestP16_1Unmade(t *testing.T) {
	for _, w := range []*World{nil, {}} {
		for kind := -1; kind < 15; kind++ {
			if e := w.Step(api.Step{Kind: kind, Node: 1, Conn: 1}); e != api.ErrNil {
				t.Errorf("kind %d has error %d", kind, e)
			}
		}
		w.Round()
		if w.Now() != 0 || w.Clients() != 0 || w.Server() != nil || w.Client(1) != nil || w.Client(0) != nil || len(w.Conns()) != 0 {
			t.Error("it tells something")
		}
		if a, b, e := w.Ends(1); a != 0 || b != 0 || e != api.ErrNil {
			t.Errorf("%d, %d, error %d", a, b, e)
		}
		if n, e := w.Waiting(1, 0); n != 0 || e != api.ErrNil {
			t.Errorf("%d, error %d", n, e)
		}
	}
}

// Which machines steps may name, and whether these must run.
func TestP16_2Machines(t *testing.T) {
	w := newWorld(t, 2)
	ofClients := []int{api.SMutate, api.SAct, api.SWatch}
	ofAll := []int{api.SCrash, api.SStart, api.SCompact}
	for _, kind := range slices.Concat(ofClients, ofAll) {
		for _, node := range []int{-1, 3, 8, 15, 16, math.MinInt, math.MaxInt} {
			want(t, w, api.Step{Kind: kind, Node: node, M: create("a")}, api.ErrStep)
		}
	}
	for _, kind := range ofClients {
		want(t, w, api.Step{Kind: kind, Node: 0, M: create("a")}, api.ErrStep)
	}
	for _, node := range []int{0, 1, 2} {
		want(t, w, api.Step{Kind: api.SStart, Node: node}, api.ErrDown)
		do(t, w, api.Step{Kind: api.SCompact, Node: node})
		crash(t, w, node)
		want(t, w, api.Step{Kind: api.SCrash, Node: node}, api.ErrDown)
		want(t, w, api.Step{Kind: api.SCompact, Node: node}, api.ErrDown)
	}
	for _, kind := range ofClients {
		want(t, w, api.Step{Kind: kind, Node: 0, M: create("a")}, api.ErrStep)
		for _, node := range []int{1, 2} {
			want(t, w, api.Step{Kind: kind, Node: node, M: create("a")}, api.ErrDown)
		}
	}
	for _, node := range []int{2, 0, 1} {
		start(t, w, node)
		want(t, w, api.Step{Kind: api.SStart, Node: node}, api.ErrDown)
	}
}

func TestP16_2Others(t *testing.T) {
	w := newWorld(t, 1)
	for _, kind := range []int{0, -1, 13, 14, 100, math.MinInt, math.MaxInt} {
		want(t, w, api.Step{Kind: kind, Node: 1, Conn: 1, N: 1, M: create("a")}, api.ErrStep)
	}
}

func TestP16_2Mutate(t *testing.T) {
	w := newWorld(t, 2)
	mutate(t, w, 1, create("a"))
	for _, x := range []struct {
		m api.Mutation
		e api.Errno
	}{
		{create("a"), api.ErrThere},
		{api.Mutation{}, api.ErrMutation},
		{create("?"), api.ErrMutation},
		{api.Mutation{Kind: api.KDelete, Issue: "b"}, api.ErrMissing},
	} {
		want(t, w, api.Step{Kind: api.SMutate, Node: 1, M: x.m}, x.e)
	}
	mutate(t, w, 1, api.Mutation{Kind: api.KStatus, Issue: "a", Text: "closed"})
	want(t, w, api.Step{Kind: api.SMutate, Node: 1, M: api.Mutation{Kind: api.KLabel, Issue: "a", Name: "l"}}, api.ErrClosed)
	mutate(t, w, 2, create("a"))
	for i := range 30 {
		mutate(t, w, 1, create("b"+Name(i)))
	}
	want(t, w, api.Step{Kind: api.SMutate, Node: 1, M: create("z")}, api.ErrFull)
	if n := len(w.Client(1).Pending()); n != 32 {
		t.Errorf("%d wait", n)
	}
}

func TestP16_2Carry(t *testing.T) {
	w := newWorld(t, 1)
	conn := dial(t, w)
	do(t, w, api.Step{Kind: api.SForge, Conn: conn, Bytes: []byte("GET /top HTTP/1.1\r\nhost: a\r\n\r\n")})
	for _, x := range []struct {
		s api.Step
		e api.Errno
	}{
		{api.Step{Conn: conn, Node: 0, N: -1}, api.ErrArg},
		{api.Step{Conn: conn, Node: 0, N: math.MinInt}, api.ErrArg},
		{api.Step{Conn: conn, Node: 1, N: 1}, api.ErrArg},
		{api.Step{Conn: conn, Node: 16, N: 1}, api.ErrArg},
		{api.Step{Conn: conn, Node: -1, N: 1}, api.ErrArg},
		{api.Step{Conn: conn + 1, Node: 0, N: 1}, api.ErrConn},
		{api.Step{Conn: 0, Node: 99, N: -1}, api.ErrConn},
	} {
		x.s.Kind = api.SCarry
		want(t, w, x.s, x.e)
	}
	waiting := func(to int) int {
		n, _ := w.Waiting(conn, to)
		return n
	}
	do(t, w, api.Step{Kind: api.SCarry, Conn: conn, Node: 0, N: 0})
	if waiting(0) != 30 {
		t.Fatalf("%d are on the way", waiting(0))
	}
	do(t, w, api.Step{Kind: api.SCarry, Conn: conn, Node: 0, N: 29})
	if waiting(0) != 1 || waiting(15) != 0 {
		t.Fatalf("%d are on the way, %d back", waiting(0), waiting(15))
	}
	do(t, w, api.Step{Kind: api.SCarry, Conn: conn, Node: 0, N: math.MaxInt})
	if waiting(0) != 0 || waiting(15) != len(refusal(401)) {
		t.Fatalf("%d are on the way, %d back", waiting(0), waiting(15))
	}
	do(t, w, api.Step{Kind: api.SCarry, Conn: conn, Node: 15, N: 5})
	if waiting(15) != len(refusal(401))-5 {
		t.Fatalf("%d are on the way back", waiting(15))
	}
}

// Bytes on a connection that a client knows nothing of are lost.
func TestP16_2CarryUnknown(t *testing.T) {
	w := newWorld(t, 1)
	conn, _ := w.net.Dial(1, 0)
	w.net.Send(conn, 0, []byte("HTTP/1.1 ???\r\n\r\n"))
	w.net.Send(conn, 1, []byte(get("/top", tokenOf(t, "c1", 1))))
	carry(t, w, conn, 1)
	carry(t, w, conn, 0)
	wantSent(t, w, conn, 1, ok(`{"top":0,"type":"poke"}`))
	act(t, w, 1)
	if l := w.Conns(); len(l) != 2 {
		t.Errorf("%v", l)
	}
}

func TestP16_2Cut(t *testing.T) {
	w := newWorld(t, 1)
	conn := dial(t, w)
	want(t, w, api.Step{Kind: api.SCut, Conn: conn + 1}, api.ErrConn)
	want(t, w, api.Step{Kind: api.SCut}, api.ErrConn)
	cut(t, w, conn)
	want(t, w, api.Step{Kind: api.SCut, Conn: conn}, api.ErrConn)
	if len(w.Conns()) != 0 {
		t.Error(w.Conns())
	}
}

func TestP16_2Pass(t *testing.T) {
	w := newWorld(t, 1)
	for _, n := range []int{-1, math.MinInt, 1<<40 + 1, math.MaxInt} {
		want(t, w, api.Step{Kind: api.SPass, N: n}, api.ErrStep)
	}
	now := 0
	for _, n := range []int{0, 1, 99, 1 << 39} {
		pass(t, w, n)
		now += n
		if w.Now() != now {
			t.Fatalf("it is %d, want %d", w.Now(), now)
		}
	}
	want(t, w, api.Step{Kind: api.SPass, N: 1<<40 - now + 1}, api.ErrStep)
	pass(t, w, 1<<40-now)
	pass(t, w, 0)
	want(t, w, api.Step{Kind: api.SPass, N: 1}, api.ErrStep)
	w.Round()
	if w.Now() != 1<<40 {
		t.Errorf("it is %d", w.Now())
	}
}

func TestP16_2Dial(t *testing.T) {
	w := newWorld(t, 1)
	for i := range 64 {
		if conn := dial(t, w); conn != i+1 {
			t.Fatalf("connection %d, want %d", conn, i+1)
		}
	}
	want(t, w, api.Step{Kind: api.SDial}, api.ErrFull)
	crash(t, w, 1)
	if len(w.Conns()) != 64 {
		t.Fatalf("a client's crash cut others' connections: %v", w.Conns())
	}
	crash(t, w, 0)
	if len(w.Conns()) != 0 {
		t.Fatalf("there are %v", w.Conns())
	}
	want(t, w, api.Step{Kind: api.SDial}, api.ErrDown)
	start(t, w, 0)
	if conn := dial(t, w); conn != 65 {
		t.Fatalf("connection %d", conn)
	}
}

func TestP16_2Forge(t *testing.T) {
	w := newWorld(t, 1)
	conn := dial(t, w)
	act(t, w, 1)
	want(t, w, api.Step{Kind: api.SForge, Conn: conn + 1, Bytes: []byte("x")}, api.ErrArg)
	want(t, w, api.Step{Kind: api.SForge, Conn: conn + 2, Bytes: []byte("x")}, api.ErrConn)
	want(t, w, api.Step{Kind: api.SForge, Conn: conn, Bytes: make([]byte, 1<<17+1)}, api.ErrFull)
	do(t, w, api.Step{Kind: api.SForge, Conn: conn})
	do(t, w, api.Step{Kind: api.SForge, Conn: conn, Bytes: make([]byte, 1<<17-1)})
	b := []byte("xyz")
	do(t, w, api.Step{Kind: api.SForge, Conn: conn, Bytes: b[:1]})
	want(t, w, api.Step{Kind: api.SForge, Conn: conn, Bytes: b[:1]}, api.ErrFull)
	b[0] = 'q'
	if s := sent(t, w, conn, 0); s[1<<17-1] != 'x' || string(b) != "qyz" {
		t.Error("what was handed in is kept, or changed")
	}
}

// A crash cuts the machine's connections alone, and keeps of its own disk what it says.
func TestP16_2Crash(t *testing.T) {
	w := newWorld(t, 2)
	mutate(t, w, 1, create("a"))
	for range 2 {
		w.Round()
	}
	watch(t, w, 1)
	if len(w.Client(2).Base()) != 1 || len(w.Conns()) != 3 {
		t.Fatal(tells(w))
	}
	was := tells(w)
	// What client 2 has of the log does not last: it was pulled, and nothing wanted since.
	do(t, w, api.Step{Kind: api.SCrash, Node: 2, Keep: []bool{true, true, true}})
	start(t, w, 2)
	if !reflect.DeepEqual(tells(w).clients, was.clients) {
		t.Fatalf("all was kept, but there is %v, not %v", tells(w).clients, was.clients)
	}
	for _, conn := range w.Conns() {
		if who, _, _ := w.Ends(conn); who != 1 {
			t.Errorf("there is a connection of %d", who)
		}
	}
	if len(w.Conns()) != 2 {
		t.Errorf("there are %v", w.Conns())
	}
	for _, s := range []api.Step{{}, {Keep: []bool{false}}, {Keep: []bool{true}, Tear: 1}} {
		twin := newWorld(t, 2)
		mutate(t, twin, 1, create("a"))
		twin.Round()
		twin.Round()
		s.Kind, s.Node = api.SCrash, 2
		do(t, twin, s)
		start(t, twin, 2)
		if len(twin.Client(2).Base()) != 0 || len(twin.Client(1).Base()) != 1 || twin.Server().Top() != 1 {
			t.Errorf("%v leaves %v", s, tells(twin))
		}
	}
}

// A machine that starts anew knows nothing but its disk: it waits for nothing, and has not failed.
func TestP16_2CrashForgets(t *testing.T) {
	w := newWorld(t, 2)
	mutate(t, w, 1, create("a"))
	crash(t, w, 0)
	for range 5 {
		w.Round()
	}
	crash(t, w, 1)
	start(t, w, 1)
	start(t, w, 0)
	act(t, w, 1)
	conn := w.Conns()[0]
	wantSent(t, w, conn, 0, post("/push", tokenOf(t, "c1", 1), textOf(t, pushOf("c1", 1, create("a")))))
	// It was to pull next, and waited for an answer.
	crash(t, w, 1)
	if len(w.Conns()) != 0 {
		t.Fatalf("%v", w.Conns())
	}
	start(t, w, 1)
	act(t, w, 1)
	wantSent(t, w, w.Conns()[0], 0, post("/push", tokenOf(t, "c1", 1), textOf(t, pushOf("c1", 1, create("a")))))
	// It has failed once only, since it started.
	cut(t, w, w.Conns()[0])
	act(t, w, 1)
	pass(t, w, client.Wait(0))
	act(t, w, 1)
	if len(w.Conns()) != 1 {
		t.Errorf("%v", w.Conns())
	}
}

// A server that can't be opened does not run.
func TestP16_2StartRefused(t *testing.T) {
	w := newWorld(t, 1)
	w.server.core.Push(pushOf("c1", 1, create("a")))
	crash(t, w, 1)
	crash(t, w, 0)
	w.server.disk, w.clients[0].disk = w.clients[0].disk, w.server.disk
	start(t, w, 0)
	want(t, w, api.Step{Kind: api.SStart, Node: 1}, api.ErrQueue)
	if w.Client(1) != nil || w.Server() == nil {
		t.Error("it runs, or the other one does not")
	}
	mutateOnDisk(t, w)
	want(t, w, api.Step{Kind: api.SStart, Node: 0}, api.ErrStore)
	if w.Server() != nil {
		t.Error("it runs")
	}
	want(t, w, api.Step{Kind: api.SStart, Node: 0}, api.ErrStore)
}

// mutateOnDisk stops the server, and lets a client write to its disk.
func mutateOnDisk(t *testing.T, w *World) {
	t.Helper()
	crash(t, w, 0)
	c, e := client.Open(w.server.disk, "c1")
	if e != api.OK {
		t.Fatal(e)
	}
	if _, err := c.Mutate(create("a")); err != nil {
		t.Fatal(err)
	}
}

func TestP16_2Compact(t *testing.T) {
	w := newWorld(t, 1)
	for i := range 20 {
		mutate(t, w, 1, create(Name(i)))
		mutate(t, w, 1, api.Mutation{Kind: api.KDelete, Issue: Name(i)})
		w.Round()
		w.Round()
	}
	for _, node := range []int{0, 1} {
		d := w.server.disk
		if node == 1 {
			d = w.clients[0].disk
		}
		was, first := tells(w), d.List()[0]
		do(t, w, api.Step{Kind: api.SCompact, Node: node})
		if d.List()[0] <= first {
			t.Errorf("machine %d has %v", node, d.List())
		}
		if !reflect.DeepEqual(tells(w), was) {
			t.Errorf("compacting %d changed something", node)
		}
	}
	w = newWorldWith(t, 1, 150)
	mutate(t, w, 1, create("a"))
	want(t, w, api.Step{Kind: api.SCompact, Node: 1}, api.ErrFull)
}

// Of three secrets the first one goes: a token of it is none any more.
func TestP16_2Rotate(t *testing.T) {
	w := newWorld(t, 1)
	for newest := 1; newest < 15; newest++ {
		for n := 0; n < newest+3; n++ {
			status := refusal(401)
			if n == newest || n == newest-1 && n > 0 {
				status = ok(`{"top":0,"type":"poke"}`)
			}
			conn := dial(t, w)
			forge(t, w, conn, get("/top", tokenOf(t, "c1", n)))
			wantSent(t, w, conn, 15, status)
			cut(t, w, conn)
		}
		do(t, w, api.Step{Kind: api.SRotate})
	}
}
