package platform

import (
	"strings"
	"testing"

	"blotter/api"
)

// pushText and pullText are what client 1 sends, signed by the first secret.
func pushText(t testing.TB, first int, l ...api.Mutation) string {
	t.Helper()
	return post("/push", tokenOf(t, "c1", 1), textOf(t, pushOf("c1", first, l...)))
}

func pullText(t testing.TB, cookie int) string {
	t.Helper()
	return post("/pull", tokenOf(t, "c1", 1), textOf(t, api.Msg{Kind: api.MPull, Client: "c1", Cookie: cookie}))
}

// asks lets client 1 act, and holds what it sends, on the newest connection, against a text; it is lost.
func asks(t testing.TB, w *World, text string) int {
	t.Helper()
	act(t, w, 1)
	l := w.Conns()
	if len(l) == 0 {
		t.Fatal("it has no connection")
	}
	conn := l[len(l)-1]
	wantSent(t, w, conn, 0, text)
	return conn
}

// answers lets bytes come to client 1 as if the server had sent them.
func answers(t testing.TB, w *World, conn int, text string) {
	t.Helper()
	if e := w.net.Send(conn, 0, []byte(text)); e != api.OK {
		t.Fatalf("connection %d has error %d", conn, e)
	}
	carry(t, w, conn, 1)
}

// silent lets client 1 act, and wants that it does nothing.
func silent(t testing.TB, w *World) {
	t.Helper()
	was := len(w.Conns())
	act(t, w, 1)
	if len(w.Conns()) != was {
		t.Fatalf("it did something: %v", w.Conns())
	}
	for _, conn := range w.Conns() {
		if n, _ := w.Waiting(conn, 0); n != 0 {
			t.Fatalf("it sent %q", sent(t, w, conn, 0))
		}
	}
}

// failedAt wants that the client failed just now, having done so a number of times ahead: it has no connection, and waits so long.
func failedAt(t testing.TB, w *World, conn, times int) {
	t.Helper()
	if !isCut(w, conn) {
		t.Fatalf("connection %d is there", conn)
	}
	wait := 100
	for range min(times, 8) {
		wait *= 2
	}
	pass(t, w, wait-1)
	silent(t, w)
	pass(t, w, 1)
}

func pushedText(last, top string) string {
	return ok(`{"last":` + last + `,"top":` + top + `,"type":"pushed"}`)
}

const emptyPatch = `{"cookie":0,"from":0,"last":0,"list":[],"top":0,"type":"patch"}`

// The bytes of requests, and which comes next: behind a push a pull, else a push, if something waits.
func TestP16_3Requests(t *testing.T) {
	w := newWorld(t, 1)
	conn := asks(t, w, pullText(t, 0))
	answers(t, w, conn, ok(emptyPatch))
	asks(t, w, pullText(t, 0))
	answers(t, w, conn, ok(emptyPatch))
	var l []api.Mutation
	for _, issue := range strings.Split("a b c d e f g h i j", " ") {
		l = append(l, create(issue))
		mutate(t, w, 1, create(issue))
	}
	asks(t, w, pushText(t, 1, l[:8]...))
	answers(t, w, conn, pushedText("8", "8"))
	asks(t, w, pullText(t, 0))
	answers(t, w, conn, ok(emptyPatch))
	asks(t, w, pushText(t, 1, l[:8]...))
	answers(t, w, conn, pushedText("8", "8"))
	asks(t, w, pullText(t, 0))
	patch := api.Msg{Kind: api.MPatch, Cookie: 8, Top: 8, Last: 8, List: pushOf("c1", 1, l[:8]...).List}
	answers(t, w, conn, ok(textOf(t, patch)))
	asks(t, w, pushText(t, 9, l[8:]...))
	answers(t, w, conn, pushedText("10", "10"))
	if got := asks(t, w, pullText(t, 8)); got != conn {
		t.Errorf("it dialled again: %d", got)
	}
}

// The token is of the newest secret, for the client's name, until the end of time.
func TestP16_3Token(t *testing.T) {
	w := newWorld(t, 8)
	for n := 1; n < 5; n++ {
		for node := 1; node <= 8; node++ {
			crash(t, w, node)
			start(t, w, node)
			act(t, w, node)
			conn := w.Conns()[len(w.Conns())-1]
			body := `{"client":"` + Name(node) + `","cookie":0,"type":"pull"}`
			wantSent(t, w, conn, 0, post("/pull", tokenOf(t, Name(node), n), body))
		}
		do(t, w, api.Step{Kind: api.SRotate})
	}
}

// It waits for an answer, however long that takes.
func TestP16_3Waits(t *testing.T) {
	w := newWorld(t, 1)
	conn := asks(t, w, pullText(t, 0))
	silent(t, w)
	mutate(t, w, 1, create("a"))
	pass(t, w, 1<<30)
	silent(t, w)
	answers(t, w, conn, ok(emptyPatch)[:60])
	pass(t, w, 1<<30)
	silent(t, w)
	answers(t, w, conn, ok(emptyPatch)[60:])
	asks(t, w, pushText(t, 1, create("a")))
}

// A connection that is there no more: it waits the longer, the more often it fails, till an answer comes.
func TestP16_3Fails(t *testing.T) {
	w := newWorld(t, 1)
	for range 2 {
		for times := range 12 {
			conn := asks(t, w, pullText(t, 0))
			cut(t, w, conn)
			silent(t, w)
			failedAt(t, w, conn, times)
		}
		answers(t, w, asks(t, w, pullText(t, 0)), ok(emptyPatch))
	}
	// Not waiting for an answer, it fails too, and begins anew with the least time.
	conn := w.Conns()[0]
	cut(t, w, conn)
	silent(t, w)
	failedAt(t, w, conn, 0)
	asks(t, w, pullText(t, 0))
}

// That a pull is next stays where a push fails.
func TestP16_3PullStaysNext(t *testing.T) {
	w := newWorld(t, 1)
	mutate(t, w, 1, create("a"))
	for times := range 2 {
		cut(t, w, asks(t, w, pushText(t, 1, create("a"))))
		silent(t, w)
		pass(t, w, 100<<(2*times))
		cut(t, w, asks(t, w, pullText(t, 0)))
		silent(t, w)
		pass(t, w, 200<<(2*times))
	}
}

// A server that does not run, and no room for a connection.
func TestP16_3CantDial(t *testing.T) {
	w := newWorld(t, 1)
	crash(t, w, 0)
	for times := range 3 {
		silent(t, w)
		failedAt(t, w, 0, times)
	}
	silent(t, w)
	start(t, w, 0)
	failedAt(t, w, 0, 3)
	conn := asks(t, w, pullText(t, 0))
	answers(t, w, conn, ok(emptyPatch))
	cut(t, w, conn)
	for range 64 {
		dial(t, w)
	}
	for times := range 3 {
		silent(t, w)
		failedAt(t, w, conn, times)
	}
	silent(t, w)
	cut(t, w, 5)
	failedAt(t, w, conn, 3)
	asks(t, w, pullText(t, 0))
}

// Answers that are taken, in whichever pieces they come.
func TestP16_4Taken(t *testing.T) {
	for size := range 70 {
		w := newWorld(t, 1)
		mutate(t, w, 1, create("a"))
		conn := asks(t, w, pushText(t, 1, create("a")))
		for text := pushedText("1", "1"); text != ""; {
			n := min(size+1, len(text))
			answers(t, w, conn, text[:n])
			text = text[n:]
			if text != "" {
				silent(t, w)
			}
		}
		asks(t, w, pullText(t, 0))
		if len(w.Client(1).Pending()) != 1 {
			t.Fatal("what was pushed waits no more, but was not pulled")
		}
		patch := api.Msg{Kind: api.MPatch, Cookie: 1, Top: 1, List: pushOf("c1", 1, create("a")).List}
		answers(t, w, conn, ok(textOf(t, patch)))
		if len(w.Client(1).Pending()) != 0 || len(w.Client(1).Base()) != 1 {
			t.Fatal("what was pulled is not there")
		}
		asks(t, w, pullText(t, 1))
	}
}

// An answer to a push says nothing of what waits, whatever its numbers.
func TestP16_4PushedNumbers(t *testing.T) {
	for _, text := range []string{pushedText("0", "0"), pushedText("99", "7"), "HTTP/1.1 200 OK\r\ncontent-length: 36\r\n\r\n{\"type\":\"pushed\", \"top\":1, \"last\":1}"} {
		w := newWorld(t, 1)
		mutate(t, w, 1, create("a"))
		conn := asks(t, w, pushText(t, 1, create("a")))
		answers(t, w, conn, text)
		if got := asks(t, w, pullText(t, 0)); got != conn || len(w.Client(1).Pending()) != 1 {
			t.Errorf("%q is not taken", text)
		}
	}
}

// Answers at which it fails, to a push and to a pull.
func TestP16_4Refused(t *testing.T) {
	patch := textOf(t, api.Msg{Kind: api.MPatch, Cookie: 1, Top: 1, List: pushOf("c1", 1, create("a")).List})
	other := textOf(t, api.Msg{Kind: api.MPatch, Cookie: 1, Top: 1, List: pushOf("c1", 1, create("b")).List})
	pushed := `{"last":1,"top":1,"type":"pushed"}`
	bad := map[string]string{
		"status 507":        refusal(507),
		"status 401":        refusal(401),
		"no message":        ok("{}"),
		"an empty body":     ok(""),
		"a poke":            ok(`{"top":1,"type":"poke"}`),
		"a push":            ok(textOf(t, pushOf("c1", 1, create("a")))),
		"no head":           "x\r\n\r\n",
		"a long head":       strings.Repeat("x", 8196),
		"a long body":       "HTTP/1.1 200 OK\r\ncontent-length: 32769\r\n\r\n",
		"another version":   strings.Replace(ok(pushed), "1.1", "1.0", 1),
		"a request":         pullText(t, 0),
		"a gap":             ok(strings.Replace(strings.Replace(patch, `"from":0`, `"from":1`, 1), `"cookie":1`, `"cookie":2`, 1)),
		"what it wants not": ok(other),
	}
	for what, text := range bad {
		for _, pulls := range []bool{false, true} {
			refused(t, what, text, pulls)
		}
	}
	for _, s := range []string{"HTTP/1.1 403 Forbidden", "HTTP/1.1 400 Bad Request", "HTTP/1.1 101 Switching Protocols"} {
		refused(t, s, strings.Replace(ok(pushed), "HTTP/1.1 200 OK", s, 1), false)
		refused(t, s, strings.Replace(ok(patch), "HTTP/1.1 200 OK", s, 1), true)
	}
	refused(t, "a patch", ok(patch), false)
	refused(t, "pushed", ok(pushed), true)
}

// refused lets a client get a text as an answer, and wants that it fails.
func refused(t *testing.T, what, text string, pulls bool) {
	t.Helper()
	w := newWorld(t, 1)
	mutate(t, w, 1, create("a"))
	conn := asks(t, w, pushText(t, 1, create("a")))
	if pulls {
		answers(t, w, conn, pushedText("1", "1"))
		asks(t, w, pullText(t, 0))
	}
	was := seenBy(w.Client(1))
	answers(t, w, conn, text)
	if now := seenBy(w.Client(1)); len(now.pending) != len(was.pending) || len(now.base) != len(was.base) {
		t.Fatalf("%s: it took something", what)
	}
	if !isCut(w, conn) {
		t.Fatalf("%s (a pull: %t): connection %d is there", what, pulls, conn)
	}
	failedAt(t, w, conn, 0)
	if pulls {
		asks(t, w, pushText(t, 1, create("a")))
	} else {
		asks(t, w, pullText(t, 0))
	}
}

// An answer for which it does not wait, alone or behind one that it takes.
func TestP16_4Unasked(t *testing.T) {
	w := newWorld(t, 1)
	conn := asks(t, w, pullText(t, 0))
	answers(t, w, conn, ok(emptyPatch))
	answers(t, w, conn, ok(emptyPatch)[:10])
	if isCut(w, conn) {
		t.Fatal("it fails at the beginning of an answer")
	}
	answers(t, w, conn, ok(emptyPatch)[10:])
	failedAt(t, w, conn, 0)
	conn = asks(t, w, pullText(t, 0))
	answers(t, w, conn, ok(emptyPatch)+pushedText("0", "0"))
	// It had just been answered: so it failed for the first time again.
	failedAt(t, w, conn, 0)
	// What came ahead of failing is not the beginning of what comes behind.
	conn = asks(t, w, pullText(t, 0))
	answers(t, w, conn, "HTTP")
	cut(t, w, conn)
	silent(t, w)
	pass(t, w, 200)
	answers(t, w, asks(t, w, pullText(t, 0)), ok(emptyPatch))
	silentNot(t, w)
}

// silentNot wants that client 1 asks at once.
func silentNot(t *testing.T, w *World) {
	t.Helper()
	act(t, w, 1)
	l := w.Conns()
	if n, _ := w.Waiting(l[len(l)-1], 0); n == 0 {
		t.Fatal("it does nothing")
	}
}

// The beginning of an answer, when nothing more can come.
func TestP16_4Done(t *testing.T) {
	for _, n := range []int{0, 1, 50, len(ok(emptyPatch)) - 1} {
		w := newWorld(t, 1)
		conn := asks(t, w, pullText(t, 0))
		if e := w.net.Send(conn, 0, []byte(ok(emptyPatch)[:n])); e != api.OK {
			t.Fatal(e)
		}
		w.net.Close(conn, 0)
		if n > 1 {
			do(t, w, api.Step{Kind: api.SCarry, Conn: conn, Node: 1, N: n - 1})
			if isCut(w, conn) {
				t.Fatal("it fails while something is on the way")
			}
		}
		carry(t, w, conn, 1)
		failedAt(t, w, conn, 0)
	}
}

// A client without room can't take what it pulled: it fails, and goes on trying.
func TestP16_4NoRoom(t *testing.T) {
	w := newWorldWith(t, 2, 700)
	for _, issue := range []string{"a", "b", "c"} {
		mutate(t, w, 1, create(issue))
	}
	patch := api.Msg{Kind: api.MPatch, Cookie: 4, Top: 4, List: pushOf("c2", 1, create("e"), create("f"), create("g"), create("h")).List}
	asks(t, w, pushText(t, 1, create("a"), create("b"), create("c")))
	conn := w.Conns()[0]
	answers(t, w, conn, pushedText("3", "3"))
	asks(t, w, pullText(t, 0))
	answers(t, w, conn, ok(textOf(t, patch)))
	if len(w.Client(1).Base()) != 0 {
		t.Fatal("there was room")
	}
	failedAt(t, w, conn, 0)
	silentNot(t, w)
}

// What real servers answer to clients whose tokens are none any more.
func TestP16_4RealRefusals(t *testing.T) {
	w := newWorld(t, 1)
	act(t, w, 1)
	conn := w.Conns()[0]
	for range 2 {
		do(t, w, api.Step{Kind: api.SRotate})
	}
	exchange(t, w, conn, 1)
	failedAt(t, w, conn, 0)
	act(t, w, 1)
	conn = w.Conns()[0]
	exchange(t, w, conn, 1)
	act(t, w, 1)
	pass(t, w, 1<<40-w.Now())
	exchange(t, w, conn, 1)
	if !isCut(w, conn) {
		t.Error("a token is taken at the end of time")
	}
}
