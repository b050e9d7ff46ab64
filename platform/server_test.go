package platform

import (
	"slices"
	"strconv"
	"strings"
	"testing"

	"blotter/api"
)

const topZero = `{"top":0,"type":"poke"}`

// closedEnd tells whether the server sends no more on a connection that is there.
func closedEnd(w *World, conn int) bool { return !isCut(w, conn) && w.net.Done(conn, 15) }

// poked is somebody else's connection that asked to be poked, and was answered.
func poked(t testing.TB, w *World) int {
	t.Helper()
	conn := dial(t, w)
	forge(t, w, conn, getPoke(tokenOf(t, "x", 1)))
	wantSent(t, w, conn, 15, welcome)
	return conn
}

func TestP16_6Answers(t *testing.T) {
	w := newWorld(t, 1)
	conn := dial(t, w)
	token := tokenOf(t, "x", 1)
	push := textOf(t, pushOf("x", 1, create("a")))
	for _, x := range []struct{ request, answer string }{
		{get("/top", token), ok(topZero)},
		{get("/", token), refusal(404)},
		{get("/push", token), refusal(405)},
		{get("/top", ""), refusal(401)},
		{post("/push", tokenOf(t, "y", 1), push), refusal(403)},
		{post("/push", token, "{}"), refusal(400)},
		{get("/poke", token), refusal(426)},
		{post("/push", token, push), ok(`{"last":1,"top":1,"type":"pushed"}`)},
		{post("/push", token, textOf(t, pushOf("x", 3, create("b")))), refusal(409)},
		{post("/pull", token, `{"client":"x","cookie":1,"type":"pull"}`), ok(`{"cookie":1,"from":1,"last":1,"list":[],"top":1,"type":"patch"}`)},
		{get("/top", token), ok(`{"top":1,"type":"poke"}`)},
	} {
		forge(t, w, conn, x.request)
		wantSent(t, w, conn, 15, x.answer)
		if closedEnd(w, conn) {
			t.Fatalf("behind %q it closes its end", x.answer)
		}
	}
	if w.Server().Top() != 1 || w.Server().Last("x") != 1 {
		t.Error("the push was not done")
	}
}

// Requests are answered in their order, in whichever pieces they come.
func TestP16_6Pieces(t *testing.T) {
	token := tokenOf(t, "x", 1)
	requests := get("/top", token) + post("/push", token, textOf(t, pushOf("x", 1, create("a")))) + get("/no", token) + get("/top", token)
	answered := ok(topZero) + ok(`{"last":1,"top":1,"type":"pushed"}`) + refusal(404) + ok(`{"top":1,"type":"poke"}`)
	for _, size := range []int{1, 2, 7, 100, 1 << 17} {
		w := newWorld(t, 1)
		conn := dial(t, w)
		do(t, w, api.Step{Kind: api.SForge, Conn: conn, Bytes: []byte(requests)})
		for n := 0; n < len(requests); n += size {
			do(t, w, api.Step{Kind: api.SCarry, Conn: conn, Node: 0, N: size})
		}
		wantSent(t, w, conn, 15, answered)
	}
}

// Each connection has a parser of its own.
func TestP16_6ConnectionsApart(t *testing.T) {
	w := newWorld(t, 1)
	a, b := dial(t, w), dial(t, w)
	request := get("/top", tokenOf(t, "x", 1))
	forge(t, w, a, request[:30])
	forge(t, w, b, "x\r\n\r\n")
	wantSent(t, w, b, 15, refusal(400))
	forge(t, w, a, request[30:])
	wantSent(t, w, a, 15, ok(topZero))
}

// The token's time is held against the world's.
func TestP16_6Time(t *testing.T) {
	w := newWorld(t, 1)
	conn := dial(t, w)
	pass(t, w, 999)
	request := get("/top", tokenUntil(t, "x", 1, 1000))
	forge(t, w, conn, request)
	wantSent(t, w, conn, 15, ok(topZero))
	pass(t, w, 1)
	forge(t, w, conn, request)
	wantSent(t, w, conn, 15, refusal(401))
}

// A status that refuses is answered by itself; then the server closes its end, and reads no more.
func TestP16_6Refused(t *testing.T) {
	good := get("/top", tokenOf(t, "x", 1))
	for text, status := range map[string]int{
		"x\r\n\r\n":                            400,
		"GET /a HTTP/1.0\r\nhost: a\r\n\r\n":   505,
		"PATCH /a HTTP/1.1\r\nhost: a\r\n\r\n": 501,
		"GET /a HTTP/1.1\r\n\r\n":              400,
		strings.Repeat("x", 8196):              431,
		"GET /" + strings.Repeat("x", 1024) + " HTTP/1.1\r\nhost: a\r\n\r\n":             414,
		"POST /push HTTP/1.1\r\nhost: a\r\ncontent-length: 32769\r\n\r\n":                413,
		"POST /push HTTP/1.1\r\nhost: a\r\ntransfer-encoding: chunked\r\n\r\n100000\r\n": 413,
		"POST /push HTTP/1.1\r\nhost: a\r\ntransfer-encoding: chunked\r\n\r\ng":          400,
	} {
		w := newWorld(t, 1)
		conn := dial(t, w)
		forge(t, w, conn, good+text+good)
		wantSent(t, w, conn, 15, ok(topZero)+refusal(status))
		if !closedEnd(w, conn) {
			t.Fatalf("%q: it does not close its end", text)
		}
		for range 3 {
			forge(t, w, conn, good)
			forge(t, w, conn, text)
			wantSent(t, w, conn, 15, "")
		}
		if isCut(w, conn) {
			t.Fatalf("%q: it is cut", text)
		}
	}
}

func TestP16_6NotKept(t *testing.T) {
	token := tokenOf(t, "x", 1)
	for _, x := range []struct {
		request, answer string
		closes          bool
	}{
		{get("/top", token, "connection: close"), ok(topZero), true},
		{get("/top", token, "CONNECTION: CLOSE"), ok(topZero), true},
		{get("/no", token, "connection: close"), refusal(404), true},
		{get("/top", token, "connection: keep-alive"), ok(topZero), false},
		{get("/top", "", "a: close"), refusal(401), false},
		{get("/poke", token, "upgrade: websocket", "connection: close", "connection: Upgrade", "sec-websocket-version: 13", "sec-websocket-key: AAAAAAAAAAAAAAAAAAAAAA=="), welcome, true},
	} {
		w := newWorld(t, 1)
		conn := dial(t, w)
		behind := get("/", token)
		forge(t, w, conn, x.request+behind)
		answer := x.answer
		if !x.closes {
			answer += refusal(404)
		}
		wantSent(t, w, conn, 15, answer)
		if closedEnd(w, conn) != x.closes || isCut(w, conn) {
			t.Fatalf("%q: closed is %t", x.request, closedEnd(w, conn))
		}
		w.Server().Push(pushOf("x", 1, create("a")))
		forge(t, w, conn, behind)
		if x.closes {
			answer = ""
		} else {
			answer = refusal(404)
		}
		wantSent(t, w, conn, 15, answer)
		wantPoked(t, w, conn, false)
	}
}

// wantPoked lets a client push something, and holds whether somebody else hears of it against what should be.
func wantPoked(t *testing.T, w *World, conn int, is bool) {
	t.Helper()
	top := w.Server().Top() + 1
	pushes(t, w, "x"+strconv.Itoa(top), 1, pushedText("1", strconv.Itoa(top)))
	text := ""
	if is {
		text = pokeFrame(t, strconv.Itoa(top))
	}
	wantSent(t, w, conn, 15, text)
}

// pushes lets somebody with a token of that name push the mutation with an ID.
func pushes(t *testing.T, w *World, name string, id int, answer string) {
	t.Helper()
	conn := dial(t, w)
	forge(t, w, conn, post("/push", tokenOf(t, name, 1), textOf(t, pushOf(name, id, create(name)))))
	wantSent(t, w, conn, 15, answer)
	cut(t, w, conn)
}

// crowd is the bytes of a request in chunks of one byte each, so many bytes in all, which goes on.
func crowd(size int) string {
	head := "POST /push HTTP/1.1\r\nhost: a\r\ntransfer-encoding: chunked\r\n\r\n"
	return (head + strings.Repeat("1\r\nx\r\n", size/6+1))[:size]
}

// Too many bytes that wait: the connection is cut.
func TestP16_6FeedFull(t *testing.T) {
	w := newWorld(t, 1)
	conn := dial(t, w)
	forge(t, w, conn, crowd(1<<16))
	if isCut(w, conn) {
		t.Fatal("2^16 bytes may wait")
	}
	forge(t, w, conn, "1")
	if !isCut(w, conn) {
		t.Fatal("more than 2^16 bytes wait")
	}
	// At once they are too many, even if they were requests that are whole: none is answered then.
	conn = dial(t, w)
	token := tokenOf(t, "x", 1)
	push := post("/push", token, textOf(t, pushOf("x", 1, create("a"))))
	forge(t, w, conn, push+strings.Repeat(get("/top", token), 1<<16/len(get("/top", token))))
	if !isCut(w, conn) || w.Server().Top() != 0 {
		t.Fatal("it is not cut, or something was done")
	}
}

// floods lets the server send to an end until there is no room for so many bytes; what is sent stays on the way.
func floods(t *testing.T, w *World, conn int, request string, answer, room int) {
	t.Helper()
	for {
		n, e := w.Waiting(conn, 15)
		if e != api.OK {
			t.Fatalf("connection %d has error %d", conn, e)
		}
		if n+room > 1<<17 {
			return
		}
		if n+answer > 1<<17 {
			t.Fatal("too big an answer to fill what is left")
		}
		forge(t, w, conn, request)
	}
}

// An answer that can't be sent: the connection is cut, and nothing more is done: neither are others poked, nor is the next request.
func TestP16_6CantAnswer(t *testing.T) {
	w := newWorld(t, 1)
	watcher := poked(t, w)
	conn := dial(t, w)
	token := tokenOf(t, "x", 1)
	room := len(pushedText("1", "1"))
	floods(t, w, conn, get("/no", token), len(refusal(404)), room)
	forge(t, w, conn, post("/push", token, textOf(t, pushOf("x", 1, create("a"))))+post("/push", token, textOf(t, pushOf("x", 2, create("b")))))
	if !isCut(w, conn) {
		t.Fatal("it is there")
	}
	if w.Server().Top() != 1 {
		t.Fatalf("Top is %d", w.Server().Top())
	}
	wantSent(t, w, watcher, 15, "")
	pushes(t, w, "x", 1, pushedText("1", "1"))
	wantSent(t, w, watcher, 15, "")
	pushes(t, w, "x", 2, pushedText("2", "2"))
	wantSent(t, w, watcher, 15, pokeFrame(t, "2"))
}

// Pokes go to all who asked for them, when and only when the log has grown.
func TestP16_6Pokes(t *testing.T) {
	w := newWorld(t, 2)
	a := poked(t, w)
	silent := dial(t, w)
	b := poked(t, w)
	watch(t, w, 2)
	c := w.Conns()[3]
	exchange(t, w, c, 2)
	for top := 1; top <= 12; top++ {
		pushes(t, w, "x", top, pushedText(strconv.Itoa(top), strconv.Itoa(top)))
		for _, conn := range []int{a, b} {
			wantSent(t, w, conn, 15, pokeFrame(t, strconv.Itoa(top)))
		}
		wantSent(t, w, c, 2, pokeFrame(t, strconv.Itoa(top)))
		wantSent(t, w, silent, 15, "")
		pushes(t, w, "x", top, pushedText(strconv.Itoa(top), strconv.Itoa(top)))
		forge(t, w, silent, post("/pull", tokenOf(t, "y", 1), `{"client":"y","cookie":0,"type":"pull"}`)+get("/top", tokenOf(t, "y", 1)))
		sent(t, w, silent, 15)
		for _, conn := range []int{a, b} {
			wantSent(t, w, conn, 15, "")
		}
	}
	// Once a request, however many mutations it has, and a poke for each of several requests.
	conn := dial(t, w)
	two := post("/push", tokenOf(t, "z", 1), textOf(t, pushOf("z", 1, create("y"), create("z"))))
	one := post("/push", tokenOf(t, "z", 1), textOf(t, pushOf("z", 3, create("y2"))))
	forge(t, w, conn, two+one)
	wantSent(t, w, a, 15, pokeFrame(t, "14")+pokeFrame(t, "15"))
	// One that crashed knows nobody.
	crash(t, w, 0)
	start(t, w, 0)
	a = poked(t, w)
	pushes(t, w, "x", 13, pushedText("13", "16"))
	wantSent(t, w, a, 15, pokeFrame(t, "16"))
}

// A push of which there was room for a part is refused, but what was taken is told.
func TestP16_6PokesPart(t *testing.T) {
	w := newWorldWith(t, 1, 600)
	watcher := poked(t, w)
	conn := dial(t, w)
	forge(t, w, conn, post("/push", tokenOf(t, "x", 1), textOf(t, pushOf("x", 1, create("a"), create("b"), create("c"), create("d"), create("e")))))
	wantSent(t, w, conn, 15, refusal(507))
	top := w.Server().Top()
	if top < 1 || top > 4 {
		t.Fatalf("Top is %d", top)
	}
	wantSent(t, w, watcher, 15, pokeFrame(t, strconv.Itoa(top)))
}

// Where a poke can't be sent, that connection is cut, and the others are poked.
func TestP16_6CantPoke(t *testing.T) {
	w := newWorld(t, 1)
	a, b, c := poked(t, w), poked(t, w), poked(t, w)
	load := strings.Repeat("p", 125)
	floods(t, w, b, masked(t, api.OpPing, load), 127, 127+len(pokeFrame(t, "1")))
	for n, _ := w.Waiting(b, 15); n+len(pokeFrame(t, "1")) <= 1<<17; n, _ = w.Waiting(b, 15) {
		forge(t, w, b, masked(t, api.OpPing, ""))
	}
	conn := dial(t, w)
	forge(t, w, conn, post("/push", tokenOf(t, "x", 1), textOf(t, pushOf("x", 1, create("a")))))
	wantSent(t, w, conn, 15, pushedText("1", "1"))
	if !isCut(w, b) {
		t.Fatal("it is there")
	}
	wantSent(t, w, a, 15, pokeFrame(t, "1"))
	wantSent(t, w, c, 15, pokeFrame(t, "1"))
}

// Frames that stand behind the request at once, and what comes later.
func TestP16_6Frames(t *testing.T) {
	ping, pong := masked(t, api.OpPing, "abc"), frame(t, api.OpPong, "abc")
	text := getPoke(tokenOf(t, "x", 1)) + ping + masked(t, api.OpText, "hi") + masked(t, api.OpBinary, "\xff") + masked(t, api.OpPong, "q") +
		"\x01" + masked(t, api.OpText, "part")[1:] + ping + "\x80" + masked(t, api.OpMore, "")[1:] + masked(t, api.OpPing, "") + ping[:5]
	for _, size := range []int{1, 3, 50, 1 << 17} {
		w := newWorld(t, 1)
		conn := dial(t, w)
		do(t, w, api.Step{Kind: api.SForge, Conn: conn, Bytes: []byte(text)})
		for n := 0; n < len(text); n += size {
			do(t, w, api.Step{Kind: api.SCarry, Conn: conn, Node: 0, N: size})
		}
		wantSent(t, w, conn, 15, welcome+pong+pong+frame(t, api.OpPong, ""))
		forge(t, w, conn, ping[5:])
		wantSent(t, w, conn, 15, pong)
		if closedEnd(w, conn) {
			t.Fatal("it is closed")
		}
		wantPoked(t, w, conn, true)
		forge(t, w, conn, get("/top", tokenOf(t, "x", 1)))
		if s := sent(t, w, conn, 15); s != frame(t, api.OpClose, "\x03\xea") {
			t.Fatalf("a request behind the handshake is answered by %q", s)
		}
	}
}

// A close and a failure are answered by a close; then nothing is read and nothing is told any more.
func TestP16_6Close(t *testing.T) {
	long := "\x81\xfe\x40\x01"
	for text, load := range map[string]string{
		masked(t, api.OpClose, ""):                                  "",
		masked(t, api.OpClose, "\x03\xe8"):                          "\x03\xe8",
		masked(t, api.OpClose, "\x03\xe9bye"):                       "\x03\xe9",
		masked(t, api.OpClose, "\x0b\xb8"+strings.Repeat("r", 123)): "\x0b\xb8",
		masked(t, api.OpClose, "\x13\x87"):                          "\x13\x87",
		masked(t, api.OpClose, "\x03\xed"):                          "\x03\xea", // 1005 is no code
		masked(t, api.OpClose, "\x03"):                              "\x03\xea",
		masked(t, api.OpClose, "\x03\xe8\xff"):                      "\x03\xef",
		frame(t, api.OpText, "x"):                                   "\x03\xea",
		"\xff":                                                      "\x03\xea",
		"\x09":                                                      "\x03\xea",
		masked(t, api.OpMore, "x"):                                  "\x03\xea",
		masked(t, api.OpText, "\xff"):                               "\x03\xef",
		long:                                                        "\x03\xf1",
	} {
		w := newWorld(t, 1)
		conn := poked(t, w)
		ping := masked(t, api.OpPing, "z")
		forge(t, w, conn, ping+text+ping)
		wantSent(t, w, conn, 15, frame(t, api.OpPong, "z")+frame(t, api.OpClose, load))
		if !closedEnd(w, conn) {
			t.Fatalf("%q: it is not closed", text)
		}
		for range 2 {
			forge(t, w, conn, ping)
			forge(t, w, conn, strings.Repeat("x", 1<<16+1))
			wantSent(t, w, conn, 15, "")
		}
		wantPoked(t, w, conn, false)
		if isCut(w, conn) {
			t.Fatalf("%q: it is cut", text)
		}
	}
}

func TestP16_6FramesFull(t *testing.T) {
	w := newWorld(t, 1)
	conn := poked(t, w)
	ping := masked(t, api.OpPing, strings.Repeat("p", 122)) // 128 bytes
	forge(t, w, conn, strings.Repeat(ping, 512))
	if isCut(w, conn) {
		t.Fatal("2^16 bytes may come at once")
	}
	wantSent(t, w, conn, 15, strings.Repeat(frame(t, api.OpPong, strings.Repeat("p", 122)), 512))
	forge(t, w, conn, ping[:1])
	forge(t, w, conn, ping[1:]+strings.Repeat(ping, 511)+ping[:1])
	if !isCut(w, conn) {
		t.Fatal("more than 2^16 bytes wait")
	}
}

// A pong, a close that can't be sent: the connection is cut.
func TestP16_6CantTell(t *testing.T) {
	load := strings.Repeat("p", 125)
	for text, room := range map[string]int{
		masked(t, api.OpPing, load):        127,
		masked(t, api.OpClose, "\x03\xe8"): 4,
		frame(t, api.OpText, ""):           4,
		masked(t, api.OpClose, ""):         2,
	} {
		for _, fits := range []bool{true, false} {
			w := newWorld(t, 1)
			conn := poked(t, w)
			fill(t, w, conn, 1<<17-room, fits)
			forge(t, w, conn, text)
			if isCut(w, conn) == fits {
				t.Errorf("%q: it is cut: %t", text, !fits)
			}
			if n, _ := w.Waiting(conn, 15); fits && n != 1<<17 {
				t.Errorf("%q: %d bytes are on the way", text, n)
			}
		}
	}
}

// fill lets pongs stand on the way to somebody else, of just so many bytes, or of two more.
func fill(t *testing.T, w *World, conn, size int, just bool) {
	t.Helper()
	if !just {
		size += 2
	}
	loads := []string{strings.Repeat("p", 125), strings.Repeat("p", 48), "p", ""}
	for left := size; left > 0; {
		i := slices.IndexFunc(loads, func(s string) bool {
			rest := left - len(s) - 2
			return rest == 0 || rest >= 4 || rest == 2 || rest == 3
		})
		forge(t, w, conn, masked(t, api.OpPing, loads[i]))
		left -= len(loads[i]) + 2
	}
	if n, _ := w.Waiting(conn, 15); n != size {
		t.Fatalf("%d bytes are on the way, not %d", n, size)
	}
}

// What the server knows of connections goes with them.
func TestP16_6Forgets(t *testing.T) {
	w := newWorld(t, 1)
	for range 200 {
		act(t, w, 1)
		conn := dial(t, w)
		forge(t, w, conn, "GET")
		for _, conn := range w.Conns() {
			carry(t, w, conn, 0)
			cut(t, w, conn)
		}
		pass(t, w, 25600)
	}
	act(t, w, 1)
	carry(t, w, w.Conns()[0], 0)
	crash(t, w, 1)
	if n := len(w.server.conns); n != 0 {
		t.Errorf("it knows %d connections", n)
	}
}
