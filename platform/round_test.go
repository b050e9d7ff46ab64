package platform

import (
	"reflect"
	"testing"

	"blotter/api"
)

// byHand is a round, step by step.
func byHand(w *World) {
	w.Step(api.Step{Kind: api.SPass, N: 25600})
	for node := 1; node <= w.Clients(); node++ {
		w.Step(api.Step{Kind: api.SAct, Node: node})
	}
	for range 4 {
		for _, conn := range w.Conns() {
			who, _, _ := w.Ends(conn)
			w.Step(api.Step{Kind: api.SCarry, Conn: conn, Node: 0, N: 1 << 17})
			w.Step(api.Step{Kind: api.SCarry, Conn: conn, Node: who, N: 1 << 17})
		}
	}
}

// busy is a world in which all kinds of connections are.
func busy(t *testing.T) *World {
	t.Helper()
	w := newWorld(t, 3)
	mutate(t, w, 1, create("a"))
	mutate(t, w, 3, create("b"))
	watch(t, w, 2)
	watch(t, w, 3)
	good := dial(t, w)
	do(t, w, api.Step{Kind: api.SForge, Conn: good, Bytes: []byte(get("/top", tokenOf(t, "c7", 1)))})
	bad := dial(t, w)
	do(t, w, api.Step{Kind: api.SForge, Conn: bad, Bytes: make([]byte, 1<<17)})
	half := dial(t, w)
	do(t, w, api.Step{Kind: api.SForge, Conn: half, Bytes: []byte("GET ")})
	return w
}

func TestP16_7Round(t *testing.T) {
	a, b := busy(t), busy(t)
	for i := range 12 {
		a.Round()
		byHand(b)
		if x, y := tells(a), tells(b); !reflect.DeepEqual(x, y) {
			t.Fatalf("round %d: %v, by hand %v", i, x, y)
		}
		if a.Now() != 25600*(i+1) {
			t.Fatalf("it is %d", a.Now())
		}
		switch i {
		case 3:
			crash(t, a, 0)
			crash(t, b, 0)
		case 5:
			start(t, a, 0)
			start(t, b, 0)
		case 6:
			crash(t, a, 2)
			crash(t, b, 2)
			mutate(t, a, 3, create("c"))
			mutate(t, b, 3, create("c"))
		case 8:
			start(t, a, 2)
			start(t, b, 2)
		}
	}
}

// In one round each client asks once, and bytes go to and fro four times.
func TestP16_7Parts(t *testing.T) {
	w := newWorld(t, 2)
	for _, issue := range []string{"a", "b", "c", "d", "e", "f", "g", "h", "i"} {
		mutate(t, w, 2, create(issue))
	}
	for i, x := range []struct{ top, pending, base int }{{8, 9, 0}, {8, 1, 8}, {9, 1, 8}, {9, 0, 9}, {9, 0, 9}} {
		w.Round()
		if top := w.Server().Top(); top != x.top || len(w.Client(2).Pending()) != x.pending || len(w.Client(2).Base()) != x.base {
			t.Fatalf("round %d: Top %d, %d wait, the base has %d", i, top, len(w.Client(2).Pending()), len(w.Client(2).Base()))
		}
	}
	// At most 2^17 bytes are on the way, so all of them are carried at once, and cut, as they are too many at once.
	conn := dial(t, w)
	do(t, w, api.Step{Kind: api.SForge, Conn: conn, Bytes: make([]byte, 1<<17)})
	w.Round()
	if !isCut(w, conn) {
		t.Error("the connection is there")
	}
	// It is carried there first: an answer finds no room ahead of what is on the way back.
	conn = dial(t, w)
	floods(t, w, conn, "GET /no HTTP/1.1\r\nhost: a\r\n\r\n", len(refusal(404)), len(refusal(404)))
	do(t, w, api.Step{Kind: api.SForge, Conn: conn, Bytes: []byte("GET /no HTTP/1.1\r\nhost: a\r\n\r\n")})
	w.Round()
	if !isCut(w, conn) {
		t.Error("it was carried back first")
	}
	// A connection behind others that a poke reaches: the poke, which is sent at the first carrying, arrives at the second.
	watch(t, w, 1)
	w.Round()
	mutate(t, w, 2, create("j"))
	w.Round()
	for _, conn := range w.Conns() {
		for _, to := range []int{0, 1, 2} {
			if n, _ := w.Waiting(conn, to); n != 0 {
				t.Errorf("%d bytes are on the way to %d", n, to)
			}
		}
	}
}
