package link_test

import (
	"bytes"
	"math"
	"slices"
	"strings"
	"testing"

	"blotter/api"
	"blotter/link"
)

// must asks that calls answered OK.
func must(t *testing.T, all ...api.Errno) {
	t.Helper()
	for i, e := range all {
		if e != api.OK {
			t.Fatalf("call %d: error %d", i, e)
		}
	}
}

// want asks for a call's error.
func want(t *testing.T, what string, got, wanted api.Errno) {
	t.Helper()
	if got != wanted {
		t.Errorf("%s: error %d, want %d", what, got, wanted)
	}
}

// dial is a new connection between two machines.
func dial(t *testing.T, n *link.Net, a, b int) int {
	t.Helper()
	id, e := n.Dial(a, b)
	if e != api.OK {
		t.Fatalf("Dial(%d, %d): error %d", a, b, e)
	}
	return id
}

// carry asks for the bytes that reach an end.
func carry(t *testing.T, n *link.Net, id, to, most int, wanted string) {
	t.Helper()
	if b, e := n.Carry(id, to, most); e != api.OK || string(b) != wanted {
		t.Errorf("Carry(%d, %d, %d): %q, error %d, want %q", id, to, most, b, e, wanted)
	}
}

// waits asks how many bytes are on the way to an end.
func waits(t *testing.T, n *link.Net, id, to, wanted int) {
	t.Helper()
	if got, e := n.Waiting(id, to); e != api.OK || got != wanted {
		t.Errorf("Waiting(%d, %d): %d, error %d, want %d", id, to, got, e, wanted)
	}
}

// there asks which connections there are.
func there(t *testing.T, n *link.Net, wanted ...int) {
	t.Helper()
	if got := n.Conns(); !slices.Equal(got, wanted) {
		t.Errorf("Conns %v, want %v", got, wanted)
	}
}

// gone asks that nothing is told of a connection any more.
func gone(t *testing.T, n *link.Net, id, a, b int) {
	t.Helper()
	for _, end := range []int{a, b, -1} {
		want(t, "Send when gone", n.Send(id, end, nil), api.ErrConn)
		want(t, "Close when gone", n.Close(id, end), api.ErrConn)
		bytes, e := n.Carry(id, end, -1)
		if len(bytes) != 0 || e != api.ErrConn {
			t.Errorf("Carry when gone: %q, error %d", bytes, e)
		}
		if k, e := n.Waiting(id, end); k != 0 || e != api.ErrConn {
			t.Errorf("Waiting when gone: %d, error %d", k, e)
		}
		if !n.Done(id, end) {
			t.Errorf("Done(%d, %d) is false, and the connection is gone", id, end)
		}
	}
	want(t, "Cut when gone", n.Cut(id), api.ErrConn)
	if x, y, e := n.Ends(id); x != 0 || y != 0 || e != api.ErrConn {
		t.Errorf("Ends when gone: %d, %d, error %d", x, y, e)
	}
}

func TestP3_1Dial(t *testing.T) {
	n := link.New()
	there(t, n)
	for _, x := range [][2]int{{3, 3}, {0, 0}, {-1, 0}, {0, -1}, {16, 0}, {0, 16}, {-1, 16}, {math.MinInt, 1}, {1, math.MaxInt}} {
		if id, e := n.Dial(x[0], x[1]); id != 0 || e != api.ErrArg {
			t.Errorf("Dial(%d, %d): %d, error %d", x[0], x[1], id, e)
		}
	}
	there(t, n)
	for i, x := range [][2]int{{0, 1}, {1, 0}, {0, 1}, {15, 0}, {0, 15}, {14, 15}} {
		if id, e := n.Dial(x[0], x[1]); id != i+1 || e != api.OK {
			t.Errorf("Dial(%d, %d): %d, error %d, want %d", x[0], x[1], id, e, i+1)
		}
		if a, b, e := n.Ends(i + 1); a != x[0] || b != x[1] || e != api.OK {
			t.Errorf("Ends(%d): %d, %d, error %d, want %v", i+1, a, b, e, x)
		}
		must(t, n.Send(i+1, x[0], []byte("a")), n.Send(i+1, x[1], []byte("b")))
	}
	there(t, n, 1, 2, 3, 4, 5, 6)
}

func TestP3_1DialFull(t *testing.T) {
	n := link.New()
	for i := 1; i <= api.MaxConns; i++ {
		if id := dial(t, n, i%16, (i+1)%16); id != i {
			t.Fatalf("number %d, want %d", id, i)
		}
	}
	if id, e := n.Dial(0, 1); id != 0 || e != api.ErrFull {
		t.Errorf("a 65th: %d, error %d", id, e)
	}
	if id, e := n.Dial(1, 1); id != 0 || e != api.ErrArg {
		t.Errorf("a 65th to oneself: %d, error %d", id, e)
	}
	if len(n.Conns()) != api.MaxConns {
		t.Errorf("%d connections", len(n.Conns()))
	}
	must(t, n.Cut(64))
	if id := dial(t, n, 0, 1); id != 65 {
		t.Errorf("behind a Cut and two refusals: number %d, want 65", id)
	}
	if _, e := n.Dial(0, 1); e != api.ErrFull {
		t.Errorf("full again: error %d", e)
	}
}

func TestP3_2SendAndCarry(t *testing.T) {
	n := link.New()
	id := dial(t, n, 2, 7)
	must(t, n.Send(id, 2, []byte("abc")), n.Send(id, 7, []byte("XY")), n.Send(id, 2, []byte("de")), n.Send(id, 2, nil))
	waits(t, n, id, 7, 5)
	waits(t, n, id, 2, 2)
	carry(t, n, id, 7, 0, "")
	carry(t, n, id, 7, 2, "ab")
	waits(t, n, id, 7, 3)
	must(t, n.Send(id, 2, []byte("f")))
	carry(t, n, id, 7, 3, "cde")
	carry(t, n, id, 7, math.MaxInt, "f")
	carry(t, n, id, 7, 1, "")
	carry(t, n, id, 2, 2, "XY")
	waits(t, n, id, 7, 0)
	waits(t, n, id, 2, 0)
	there(t, n, id)
}

func TestP3_2Wrong(t *testing.T) {
	n := link.New()
	id := dial(t, n, 2, 7)
	must(t, n.Send(id, 2, []byte("abc")))
	for _, wrong := range []int{0, -1, id + 1, math.MaxInt, math.MinInt} {
		want(t, "Send", n.Send(wrong, 2, []byte("x")), api.ErrConn)
		if b, e := n.Carry(wrong, 7, 1); len(b) != 0 || e != api.ErrConn {
			t.Errorf("Carry of connection %d: %q, error %d", wrong, b, e)
		}
		if b, e := n.Carry(wrong, 9, -1); len(b) != 0 || e != api.ErrConn {
			t.Errorf("Carry of connection %d, all wrong: %q, error %d", wrong, b, e)
		}
	}
	for _, node := range []int{0, 1, 3, -1, 16, math.MaxInt, math.MinInt} {
		want(t, "Send", n.Send(id, node, []byte("x")), api.ErrArg)
		if b, e := n.Carry(id, node, 1); len(b) != 0 || e != api.ErrArg {
			t.Errorf("Carry to %d: %q, error %d", node, b, e)
		}
	}
	for _, most := range []int{-1, math.MinInt} {
		if b, e := n.Carry(id, 7, most); len(b) != 0 || e != api.ErrArg {
			t.Errorf("Carry of %d: %q, error %d", most, b, e)
		}
	}
	carry(t, n, id, 7, 9, "abc")
	carry(t, n, id, 2, 9, "")
}

func TestP3_2Full(t *testing.T) {
	n := link.New()
	id := dial(t, n, 0, 1)
	all := bytes.Repeat([]byte("0123456789abcdef"), api.MaxFlight/16)
	want(t, "one byte too many at once", n.Send(id, 0, append([]byte("x"), all...)), api.ErrFull)
	waits(t, n, id, 1, 0)
	must(t, n.Send(id, 0, all[:1]), n.Send(id, 0, all[1:]), n.Send(id, 0, nil))
	want(t, "one byte too many", n.Send(id, 0, []byte("x")), api.ErrFull)
	must(t, n.Send(id, 1, all))
	waits(t, n, id, 1, api.MaxFlight)
	waits(t, n, id, 0, api.MaxFlight)
	carry(t, n, id, 1, 3, "012")
	want(t, "more than was carried", n.Send(id, 0, []byte("wxyz")), api.ErrFull)
	must(t, n.Send(id, 0, []byte("xyz")))
	carry(t, n, id, 1, math.MaxInt, string(all[3:])+"xyz")
	must(t, n.Close(id, 1))
	want(t, "shut and full", n.Send(id, 1, []byte("x")), api.ErrShut)
	want(t, "shut, and nothing to send", n.Send(id, 1, nil), api.ErrShut)
}

func TestP3_3Close(t *testing.T) {
	n := link.New()
	id := dial(t, n, 4, 5)
	want(t, "Close of none", n.Close(2, 4), api.ErrConn)
	want(t, "Close of none by a stranger", n.Close(2, 6), api.ErrConn)
	for _, node := range []int{6, 0, -1, 16} {
		want(t, "Close by a stranger", n.Close(id, node), api.ErrArg)
	}
	must(t, n.Send(id, 4, []byte("abc")), n.Close(id, 4))
	want(t, "Close again", n.Close(id, 4), api.ErrShut)
	want(t, "Close by a stranger", n.Close(id, 6), api.ErrArg)
	want(t, "Send when closed", n.Send(id, 4, []byte("x")), api.ErrShut)
	must(t, n.Send(id, 5, []byte("XY")))
	carry(t, n, id, 4, 9, "XY")
	carry(t, n, id, 5, 9, "abc")
	there(t, n, id)
	must(t, n.Close(id, 5))
	there(t, n)
	gone(t, n, id, 4, 5)
}

func TestP3_3GoneBehindCarry(t *testing.T) {
	n := link.New()
	for _, first := range []int{0, 1} {
		id := dial(t, n, 0, 1)
		must(t, n.Send(id, 0, []byte("abc")), n.Send(id, 1, []byte("X")), n.Close(id, first), n.Close(id, 1-first))
		want(t, "Close again", n.Close(id, first), api.ErrShut)
		want(t, "Send when closed", n.Send(id, 1-first, nil), api.ErrShut)
		carry(t, n, id, 1, 2, "ab")
		carry(t, n, id, 0, 1, "X")
		there(t, n, id)
		carry(t, n, id, 1, 0, "")
		there(t, n, id)
		carry(t, n, id, 1, 1, "c")
		there(t, n)
		gone(t, n, id, 0, 1)
	}
	id := dial(t, n, 0, 1)
	carry(t, n, id, 1, 5, "")
	must(t, n.Close(id, 0))
	carry(t, n, id, 1, 5, "")
	there(t, n, id)
}

func TestP3_3Cut(t *testing.T) {
	n := link.New()
	a, b := dial(t, n, 0, 1), dial(t, n, 0, 1)
	must(t, n.Send(a, 0, []byte("abc")), n.Send(b, 0, []byte("xyz")), n.Close(a, 1))
	for _, id := range []int{0, -1, 3, math.MaxInt, math.MinInt} {
		want(t, "Cut of none", n.Cut(id), api.ErrConn)
	}
	must(t, n.Cut(a))
	gone(t, n, a, 0, 1)
	there(t, n, b)
	carry(t, n, b, 1, 9, "xyz")
}

func TestP3_3Drop(t *testing.T) {
	n := link.New()
	for _, x := range [][2]int{{0, 1}, {1, 2}, {2, 3}, {3, 1}, {0, 15}} {
		id := dial(t, n, x[0], x[1])
		must(t, n.Send(id, x[0], []byte("abc")))
	}
	for _, node := range []int{4, -1, 16, math.MinInt, math.MaxInt} {
		if got := n.Drop(node); got != 0 {
			t.Errorf("Drop(%d): %d", node, got)
		}
	}
	there(t, n, 1, 2, 3, 4, 5)
	if got := n.Drop(1); got != 3 {
		t.Errorf("Drop(1): %d", got)
	}
	there(t, n, 3, 5)
	gone(t, n, 1, 0, 1)
	gone(t, n, 2, 1, 2)
	gone(t, n, 4, 3, 1)
	if got := n.Drop(1); got != 0 {
		t.Errorf("Drop(1) again: %d", got)
	}
	if got := n.Drop(0); got != 1 {
		t.Errorf("Drop(0): %d", got)
	}
	carry(t, n, 3, 3, 9, "abc")
}

func TestP3_4Told(t *testing.T) {
	n := link.New()
	id := dial(t, n, 9, 3)
	if a, b, e := n.Ends(id); a != 9 || b != 3 || e != api.OK {
		t.Errorf("Ends: %d, %d, error %d", a, b, e)
	}
	for _, node := range []int{0, -1, 16} {
		if k, e := n.Waiting(id, node); k != 0 || e != api.ErrArg {
			t.Errorf("Waiting to %d: %d, error %d", node, k, e)
		}
		if !n.Done(id, node) {
			t.Errorf("something may come to %d", node)
		}
	}
	gone(t, n, id+1, 9, 3)
	gone(t, n, 0, 9, 3)
	if n.Done(id, 9) || n.Done(id, 3) {
		t.Error("done at once")
	}
	must(t, n.Send(id, 9, []byte("a")), n.Close(id, 9))
	if n.Done(id, 3) || n.Done(id, 9) {
		t.Error("done, and a byte is on the way")
	}
	carry(t, n, id, 3, 1, "a")
	if !n.Done(id, 3) || n.Done(id, 9) {
		t.Error("nothing can come to 3, and something to 9")
	}
}

func TestP3_4Unmade(t *testing.T) {
	for _, n := range []*link.Net{nil, {}} {
		id, e := n.Dial(0, 1)
		if id != 0 || e != api.ErrNil {
			t.Errorf("Dial: %d, error %d", id, e)
		}
		_, e = n.Dial(3, 3)
		want(t, "Dial", e, api.ErrNil)
		want(t, "Send", n.Send(1, 0, []byte("x")), api.ErrNil)
		want(t, "Close", n.Close(1, 0), api.ErrNil)
		want(t, "Cut", n.Cut(1), api.ErrNil)
		if b, e := n.Carry(1, 0, -1); len(b) != 0 || e != api.ErrNil {
			t.Errorf("Carry: %q, error %d", b, e)
		}
		if a, b, e := n.Ends(1); a != 0 || b != 0 || e != api.ErrNil {
			t.Errorf("Ends: %d, %d, error %d", a, b, e)
		}
		if k, e := n.Waiting(1, 0); k != 0 || e != api.ErrNil {
			t.Errorf("Waiting: %d, error %d", k, e)
		}
		if n.Drop(0) != 0 || len(n.Conns()) != 0 || !n.Done(1, 0) {
			t.Error("Drop, Conns, Done")
		}
	}
}

func TestP3_6PieceByPiece(t *testing.T) {
	text := strings.Repeat("one two three ", 20)
	for cut := 0; cut <= len(text); cut += 7 {
		whole, parts := link.New(), link.New()
		a, b := dial(t, whole, 0, 1), dial(t, parts, 0, 1)
		must(t, whole.Send(a, 0, []byte(text)), parts.Send(b, 0, []byte(text[:cut])), parts.Send(b, 0, []byte(text[cut:])))
		carry(t, whole, a, 1, len(text), text)
		carry(t, parts, b, 1, cut, text[:cut])
		carry(t, parts, b, 1, len(text)-cut, text[cut:])
		waits(t, parts, b, 1, 0)
	}
}

func TestP3_8Once(t *testing.T) {
	n := link.New()
	for i := 1; i <= 300; i++ {
		id := dial(t, n, 0, 1)
		if id != i {
			t.Fatalf("number %d, want %d", id, i)
		}
		switch i % 4 {
		case 0:
			must(t, n.Cut(id))
		case 1:
			must(t, n.Close(id, 0), n.Close(id, 1))
		case 2:
			n.Drop(1)
		case 3:
			must(t, n.Send(id, 0, []byte("a")), n.Close(id, 0), n.Close(id, 1))
			carry(t, n, id, 1, 1, "a")
		}
		there(t, n)
	}
}

// What was handed in or out may be written over.
func TestP3Memory(t *testing.T) {
	n := link.New()
	id := dial(t, n, 0, 1)
	room := []byte("abcdefZZZZZZ")
	must(t, n.Send(id, 0, room[:6]), n.Send(id, 0, []byte("gh")))
	if string(room) != "abcdefZZZZZZ" {
		t.Errorf("Send wrote into what it was given: %q", room)
	}
	copy(room, "############")
	b, _ := n.Carry(id, 1, 2)
	if string(b) != "ab" {
		t.Errorf("carried %q", b)
	}
	for i := range b[:cap(b)] {
		b[:cap(b)][i] = '#'
	}
	carry(t, n, id, 1, 9, "cdefgh")
	x, y := dial(t, n, 0, 1), dial(t, n, 0, 1)
	list := n.Conns()
	for i := range list[:cap(list)] {
		list[:cap(list)][i] = 77
	}
	there(t, n, id, x, y)
}

// Two nets know nothing of one another.
func TestP3TwoNets(t *testing.T) {
	m, n := link.New(), link.New()
	dial(t, m, 0, 1)
	if id := dial(t, n, 1, 2); id != 1 {
		t.Errorf("number %d", id)
	}
	must(t, m.Send(1, 0, []byte("abc")))
	waits(t, n, 1, 1, 0)
	m.Drop(0)
	there(t, n, 1)
}
