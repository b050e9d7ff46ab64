package platform

import (
	"strings"
	"testing"

	"blotter/api"
)

// watching is a world whose client 1 asked to be poked; the connection's number.
func watching(t *testing.T) (*World, int) {
	t.Helper()
	w := newWorld(t, 1)
	watch(t, w, 1)
	wantSent(t, w, 1, 0, getPoke(tokenOf(t, "c1", 1)))
	return w, 1
}

// waiting is that world, in which the client then failed twice: it waits 200 milliseconds from now on.
func waiting(t *testing.T) (*World, int) {
	t.Helper()
	w, conn := watching(t)
	for range 2 {
		pass(t, w, 1000)
		cut(t, w, asks(t, w, pullText(t, 0)))
		silent(t, w)
	}
	return w, conn
}

func pokeFrame(t testing.TB, top string) string {
	t.Helper()
	return frame(t, api.OpText, `{"top":`+top+`,"type":"poke"}`)
}

func TestP16_5Watch(t *testing.T) {
	w, conn := watching(t)
	for range 3 {
		watch(t, w, 1)
		silentAbout(t, w, conn)
		if len(w.Conns()) != 1 {
			t.Fatalf("it asked again: %v", w.Conns())
		}
	}
	cut(t, w, conn)
	do(t, w, api.Step{Kind: api.SRotate})
	watch(t, w, 1)
	wantSent(t, w, 2, 0, getPoke(tokenOf(t, "c1", 2)))
	crash(t, w, 0)
	for range 2 {
		watch(t, w, 1)
		if len(w.Conns()) != 0 {
			t.Fatalf("it dialled a server that does not run: %v", w.Conns())
		}
	}
	start(t, w, 0)
	for range 64 {
		dial(t, w)
	}
	watch(t, w, 1)
	watch(t, w, 1)
	cut(t, w, 3)
	watch(t, w, 1)
	wantSent(t, w, 67, 0, getPoke(tokenOf(t, "c1", 2)))
}

func silentAbout(t *testing.T, w *World, conn int) {
	t.Helper()
	wantSent(t, w, conn, 0, "")
}

// Neither does watching hinder asking, nor the other way round.
func TestP16_5Apart(t *testing.T) {
	w, conn := watching(t)
	asked := asks(t, w, pullText(t, 0))
	if asked == conn {
		t.Fatal("it asks on the connection of pokes")
	}
	answers(t, w, conn, refusal(401))
	if !isCut(w, conn) || isCut(w, asked) {
		t.Fatal("another connection was cut")
	}
	answers(t, w, asked, ok(emptyPatch))
	silentNot(t, w)
	watch(t, w, 1)
	again := w.Conns()[1]
	wantSent(t, w, again, 0, getPoke(tokenOf(t, "c1", 1)))
	answers(t, w, asked, refusal(500))
	if !isCut(w, asked) || isCut(w, again) {
		t.Fatal("another connection was cut")
	}
	crash(t, w, 1)
	start(t, w, 1)
	watch(t, w, 1)
	if len(w.Conns()) != 1 {
		t.Errorf("%v", w.Conns())
	}
}

// A poke with more than it has ends the waiting; in whichever pieces it comes.
func TestP16_5Poked(t *testing.T) {
	for size := 1; size < 170; size += 4 {
		w, conn := waiting(t)
		text := welcome + pokeFrame(t, "1")
		for text != "" {
			silent(t, w)
			n := min(size, len(text))
			answers(t, w, conn, text[:n])
			text = text[n:]
		}
		asks(t, w, pullText(t, 0))
		if isCut(w, conn) {
			t.Fatal("it is cut")
		}
	}
}

// That it ends the waiting changes not how often it failed.
func TestP16_5PokedFails(t *testing.T) {
	w, conn := waiting(t)
	answers(t, w, conn, welcome+pokeFrame(t, "1"))
	asked := asks(t, w, pullText(t, 0))
	answers(t, w, conn, pokeFrame(t, "2"))
	silent(t, w)
	cut(t, w, asked)
	silent(t, w)
	failedAt(t, w, asked, 2)
}

// What is no such poke changes nothing.
func TestP16_5NotPoked(t *testing.T) {
	for _, text := range []string{
		pokeFrame(t, "0"),
		frame(t, api.OpBinary, `{"top":1,"type":"poke"}`),
		frame(t, api.OpText, `{"top":1,"type":"poke","x":1}`),
		frame(t, api.OpText, `{"last":1,"top":1,"type":"pushed"}`),
		frame(t, api.OpText, emptyPatch),
		frame(t, api.OpText, "x"),
		frame(t, api.OpText, ""),
		frame(t, api.OpPong, `{"top":1,"type":"poke"}`),
		pokeFrame(t, "1")[:5],
		"\x01" + pokeFrame(t, "1")[1:],
	} {
		w, conn := waiting(t)
		answers(t, w, conn, welcome+text)
		silent(t, w)
		if isCut(w, conn) {
			t.Errorf("%q cuts the connection", text)
		}
		silentAbout(t, w, conn)
	}
}

// A poke counts against what the base has.
func TestP16_5PokedBase(t *testing.T) {
	for top, ends := range map[string]bool{"0": false, "2": false, "3": true} {
		w, conn := watching(t)
		asked := asks(t, w, pullText(t, 0))
		patch := api.Msg{Kind: api.MPatch, Cookie: 2, Top: 2, List: pushOf("c2", 1, create("a"), create("b")).List}
		answers(t, w, asked, ok(textOf(t, patch)))
		mutate(t, w, 1, create("c"))
		cut(t, w, asked)
		silent(t, w)
		answers(t, w, conn, welcome+pokeFrame(t, top))
		if !ends {
			silent(t, w)
			continue
		}
		asks(t, w, pushText(t, 1, create("c")))
	}
}

func TestP16_5Ping(t *testing.T) {
	w, conn := watching(t)
	answers(t, w, conn, welcome+frame(t, api.OpPing, "abcde")+frame(t, api.OpPing, ""))
	wantSent(t, w, conn, 0, frame(t, api.OpPong, "abcde", 1, 2, 3, 4)+frame(t, api.OpPong, "", 1, 2, 3, 4))
	answers(t, w, conn, frame(t, api.OpPing, strings.Repeat("p", 125))+pokeFrame(t, "1"))
	wantSent(t, w, conn, 0, frame(t, api.OpPong, strings.Repeat("p", 125), 1, 2, 3, 4))
}

// What cuts the connection, ahead of the answer and behind it; then it may ask again.
func TestP16_5Cut(t *testing.T) {
	accept := "ICX+Yqv66kxgM0FcWaLWlFLwTAI="
	for what, text := range map[string]string{
		"status 401":       refusal(401),
		"status 426":       refusal(426),
		"another status":   strings.Replace(welcome, "101 Switching Protocols", "200 OK", 1),
		"200 with accept":  "HTTP/1.1 200 OK\r\nsec-websocket-accept: " + accept + "\r\ncontent-length: 0\r\n\r\n",
		"another accept":   strings.Replace(welcome, accept, "s3pPLMBiTxaQ9kYGzzhZRbK+xOo=", 1),
		"no accept":        strings.Replace(welcome, "sec-websocket-accept", "x", 1),
		"other letters":    strings.Replace(welcome, "ICX", "icx", 1),
		"no answer":        "hello\r\n\r\n",
		"a long head":      strings.Repeat("y", 8196),
		"a long body":      "HTTP/1.1 200 OK\r\ncontent-length: 32769\r\n\r\n",
		"a masked frame":   welcome + masked(t, api.OpText, "x"),
		"no kind":          welcome + "\x83\x00",
		"no characters":    welcome + frame(t, api.OpText, "\xff"),
		"a close":          welcome + frame(t, api.OpClose, "\x03\xe8"),
		"a close, no code": welcome + frame(t, api.OpClose, ""),
		"a bad close":      welcome + frame(t, api.OpClose, "\x00"),
		"too much":         welcome + strings.Repeat("\x01", 1<<16+1),
		"a long message":   welcome + frame(t, api.OpText, strings.Repeat("x", 1<<14))[:1] + "\x7e\x40\x01",
	} {
		w, conn := waiting(t)
		answers(t, w, conn, text)
		if !isCut(w, conn) {
			t.Fatalf("%s: the connection is there", what)
		}
		silent(t, w)
		watch(t, w, 1)
		again := w.Conns()[0]
		wantSent(t, w, again, 0, getPoke(tokenOf(t, "c1", 1)))
		answers(t, w, again, welcome+pokeFrame(t, "1"))
		asks(t, w, pullText(t, 0))
	}
	// Behind what cuts it nothing counts.
	w, conn := waiting(t)
	answers(t, w, conn, welcome+frame(t, api.OpClose, "")+pokeFrame(t, "1"))
	silent(t, w)
}

// Headers more, in another order, are welcome too.
func TestP16_5Welcome(t *testing.T) {
	w, conn := waiting(t)
	answers(t, w, conn, "HTTP/1.1 101 Switching Protocols\r\na: b\r\nsec-websocket-accept: ICX+Yqv66kxgM0FcWaLWlFLwTAI=\r\n\r\n"+pokeFrame(t, "1"))
	asks(t, w, pullText(t, 0))
}

// The whole way: what one client pushes pokes the other one.
func TestP16_5Really(t *testing.T) {
	w := newWorld(t, 2)
	watch(t, w, 2)
	exchange(t, w, 1, 2)
	act(t, w, 2)
	exchange(t, w, 2, 2)
	crash(t, w, 0)
	start(t, w, 0)
	watch(t, w, 2)
	exchange(t, w, 3, 2)
	act(t, w, 2) // fails: its connection of requests went with the crash
	mutate(t, w, 1, create("a"))
	act(t, w, 1)
	exchange(t, w, 4, 1)
	act(t, w, 2)
	if len(w.Conns()) != 2 {
		t.Fatalf("it did not wait: %v", w.Conns())
	}
	carry(t, w, 3, 2)
	act(t, w, 2)
	exchange(t, w, 5, 2)
	if len(w.Client(2).Base()) != 1 {
		t.Error("it did not pull at once")
	}
}
