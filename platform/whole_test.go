package platform

import (
	"math/rand"
	"reflect"
	"slices"
	"strings"
	"testing"

	"blotter/api"
)

func closing(issue string) api.Mutation {
	return api.Mutation{Kind: api.KStatus, Issue: issue, Text: "closed"}
}

func title(issue, text string) api.Mutation {
	return api.Mutation{Kind: api.KTitle, Issue: issue, Text: text}
}

func isOf(l []api.Entry, key, part string) bool {
	return slices.ContainsFunc(l, func(x api.Entry) bool { return x.Key == key && strings.Contains(x.Value, part) })
}

func TestWholeExample1Offline(t *testing.T) {
	w := newWorld(t, 2)
	crash(t, w, 0)
	mutate(t, w, 1, create("a"))
	if !isOf(w.Client(1).View(), "i/a", "t") || len(w.Client(2).View()) != 0 {
		t.Fatal("it does not see it at once, or the other one does")
	}
	start(t, w, 0)
	act(t, w, 1)
	exchange(t, w, w.Conns()[0], 1)
	if w.Server().Top() != 1 || len(w.Client(2).View()) != 0 {
		t.Fatal("it is not pushed, or the other one sees it ahead of a pull")
	}
	act(t, w, 2)
	exchange(t, w, w.Conns()[1], 2)
	if !isOf(w.Client(2).View(), "i/a", "t") {
		t.Fatal("the other one does not see it")
	}
}

func TestWholeExample2Both(t *testing.T) {
	w := newWorld(t, 2)
	mutate(t, w, 1, create("a"))
	mutate(t, w, 1, title("a", "one"))
	mutate(t, w, 2, create("a"))
	w.Round()
	if w.Server().Top() != 3 || !isOf(w.Client(2).View(), "i/a", `"t"`) || !isOf(w.Server().State(), "i/a", `"one"`) {
		t.Fatalf("%v", tells(w))
	}
	w.Round()
	if !isOf(w.Client(2).View(), "i/a", `"one"`) || len(w.Client(2).Pending()) != 0 {
		t.Fatalf("%v", w.Client(2).View())
	}
}

func TestWholeExample3AnswerLost(t *testing.T) {
	w := newWorld(t, 1)
	mutate(t, w, 1, create("a"))
	for range 5 {
		act(t, w, 1)
		carry(t, w, w.Conns()[0], 0)
		cut(t, w, w.Conns()[0])
		act(t, w, 1)
		pass(t, w, 25600)
	}
	if w.Server().Top() != 1 || len(w.Client(1).Pending()) != 1 {
		t.Fatalf("%v", tells(w))
	}
	w.Round()
	w.Round()
	if w.Server().Top() != 1 || len(w.Client(1).Pending()) != 0 {
		t.Fatalf("%v", tells(w))
	}
}

func TestWholeExample4ServerCrashes(t *testing.T) {
	w := newWorld(t, 1)
	mutate(t, w, 1, create("a"))
	mutate(t, w, 1, create("b"))
	w.Round()
	log := w.Server().Log(0, 9)
	crash(t, w, 0)
	start(t, w, 0)
	if len(log) != 2 || !slices.Equal(w.Server().Log(0, 9), log) {
		t.Fatalf("%v of %v", w.Server().Log(0, 9), log)
	}
}

func TestWholeExample5ClientCrashes(t *testing.T) {
	w := newWorld(t, 1)
	for _, issue := range []string{"a", "b", "c"} {
		mutate(t, w, 1, create(issue))
	}
	was := seenBy(w.Client(1))
	crash(t, w, 1)
	start(t, w, 1)
	if now := seenBy(w.Client(1)); len(now.pending) != 3 || !reflect.DeepEqual(now, was) {
		t.Fatalf("%v, want %v", now, was)
	}
}

// The 33rd is in TestP16_2Mutate, another client's token in TestP16_6Answers, one of a secret that went in TestP16_2Rotate.

func TestWholeExample8Halves(t *testing.T) {
	for _, text := range []string{
		"\x81\x85abc", "GET /top HT", crowd(1 << 17),
		"POST /push HTTP/1.1\r\nhost: a\r\ntransfer-encoding: chunked\r\n\r\n100000\r\n",
		post("/push", tokenOf(t, "c1", 1), "\xff\xfe"),
		post("/push", tokenOf(t, "c1", 1), strings.Replace(textOf(t, pushOf("c1", 1, create("a"))), `"t"`, "\"\xff\"", 1)),
	} {
		w := newWorld(t, 1)
		conn := dial(t, w)
		forge(t, w, conn, text)
		for range 3 {
			w.Round()
		}
		if w.Server().Top() != 0 {
			t.Errorf("%q: the log has grown", text)
		}
	}
}

func TestWholeExample9NoRoom(t *testing.T) {
	w := newWorldWith(t, 4, 900)
	for _, node := range []int{1, 2, 3} {
		mutate(t, w, node, create(Name(node)+"a"))
		mutate(t, w, node, create(Name(node)+"b"))
	}
	for range 6 {
		w.Round()
	}
	top := w.Server().Top()
	if top == 0 || top >= 6 {
		t.Fatalf("Top is %d", top)
	}
	log := w.Server().Log(0, 9)
	crash(t, w, 0)
	start(t, w, 0)
	w.Round()
	if !isBeginning(log, w.Server().Log(0, 9)) {
		t.Fatal("what was taken did not stay")
	}
	waits := 0
	for _, node := range []int{1, 2, 3} {
		waits += len(w.Client(node).Pending())
	}
	if waits != 6-w.Server().Top() {
		t.Errorf("%d wait, and the log has %d", waits, w.Server().Top())
	}
}

func TestWholeExample10Closed(t *testing.T) {
	comment := api.Mutation{Kind: api.KComment, Issue: "a", Name: "n", Text: "hi"}
	w := newWorld(t, 2)
	mutate(t, w, 1, create("a"))
	w.Round()
	w.Round()
	mutate(t, w, 1, closing("a"))
	want(t, w, api.Step{Kind: api.SMutate, Node: 1, M: comment}, api.ErrClosed)
	mutate(t, w, 2, comment)
	for range 4 {
		w.Round()
	}
	if w.Server().Top() != 3 || isOf(w.Server().State(), "c/a/n", "") || isOf(w.Client(2).View(), "c/a/n", "") {
		t.Errorf("%v", tells(w))
	}
}

// P4, P16.10: as much as can wait, of as many clients as can be.
func TestP4AllThatCanWait(t *testing.T) {
	w := newWorld(t, 8)
	r := rand.New(rand.NewSource(4))
	for node := 1; node <= 8; node++ {
		mutate(t, w, node, create("i"+Name(node)))
		for len(w.Client(node).Pending()) < 32 {
			w.Step(api.Step{Kind: api.SMutate, Node: node, M: randomMutation(r)})
		}
	}
	rounds := 0
	for ; rounds < 66 && !allSettled(w); rounds++ {
		w.Round()
	}
	if w.Server().Top() != 256 || !allSettled(w) {
		t.Fatalf("Top is %d behind %d rounds", w.Server().Top(), rounds)
	}
	for node := 1; node <= 8; node++ {
		if !slices.Equal(w.Client(node).View(), leadsTo(w.Server().Log(0, 999))) {
			t.Errorf("client %d sees something else", node)
		}
	}
}

// allSettled tells whether nothing waits, and all have the whole log.
func allSettled(w *World) bool {
	for node := 1; node <= w.Clients(); node++ {
		if len(w.Client(node).Pending()) > 0 || len(w.Client(node).Base()) != w.Server().Top() {
			return false
		}
	}
	return true
}

// P4: somebody else has all connections that can be, till they are cut.
func TestP4NoConnectionsLeft(t *testing.T) {
	w := newWorld(t, 2)
	for range 64 {
		dial(t, w)
	}
	mutate(t, w, 1, create("a"))
	for range 12 {
		w.Round()
	}
	if w.Server().Top() != 0 {
		t.Fatal("it found a connection")
	}
	for _, conn := range w.Conns() {
		cut(t, w, conn)
	}
	for range 3 {
		w.Round()
	}
	if !allSettled(w) || w.Server().Top() != 1 {
		t.Fatalf("%v", tells(w))
	}
}

// P5: with somebody else's bytes or without them, clients and the server come to the same, at each moment.
func TestP5AnyBytes(t *testing.T) {
	for seed := range int64(25) {
		r := rand.New(rand.NewSource(500 + seed))
		s := newScript(t, seed, 3, bigRoom, noToken)
		alone, among := newWorld(t, 3), s.w
		for range 60 {
			x := ownStep(r)
			if a, b := play(alone, x), play(among, x); a != b {
				t.Fatalf("%+v: error %d, among others %d", x, a, b)
			}
			for range r.Intn(4) {
				meddle(t, s)
			}
			a, b := tells(alone), tells(among)
			if !reflect.DeepEqual(a.log, b.log) || !reflect.DeepEqual(a.clients, b.clients) || !slices.Equal(a.running, b.running) {
				t.Fatalf("behind %+v: %v, among others %v", x, a, b)
			}
		}
	}
}

// ownStep is one that names no connection.
func ownStep(r *rand.Rand) api.Step {
	node := r.Intn(4)
	switch k := r.Intn(20); {
	case k < 8:
		return api.Step{Kind: api.SMutate, Node: node, M: randomMutation(r)}
	case k < 9:
		return api.Step{Kind: api.SCrash, Node: node, Keep: []bool{r.Intn(2) == 0, true}, Tear: r.Intn(3)}
	case k < 12:
		return api.Step{Kind: api.SStart, Node: node}
	case k < 13:
		return api.Step{Kind: api.SRotate}
	case k < 14:
		return api.Step{Kind: api.SWatch, Node: node}
	case k < 15:
		return api.Step{Kind: api.SCompact, Node: node}
	}
	return api.Step{Kind: sRound}
}

// meddle lets somebody else dial, send, or be cut off.
func meddle(t *testing.T, s *script) {
	t.Helper()
	l := others(s.w)
	switch {
	case len(l) < 3:
		s.w.Step(api.Step{Kind: api.SDial})
	case s.r.Intn(8) == 0:
		cut(t, s.w, l[0])
	case s.w.Server() != nil:
		x := s.forgery(t)
		s.w.Step(x)
		s.w.Step(api.Step{Kind: api.SCarry, Conn: x.Conn, Node: 0, N: 1 + s.r.Intn(1<<17)})
	}
}

// P16.11 the other way round: with a token somebody else has a say.
func TestP16_11Token(t *testing.T) {
	for n, top := range map[int]int{1: 1, 2: 0} {
		w := newWorld(t, 1)
		conn := dial(t, w)
		forge(t, w, conn, post("/push", tokenOf(t, "x", n), textOf(t, pushOf("x", 1, create("a")))))
		if w.Server().Top() != top {
			t.Errorf("the secret %d: Top is %d", n, w.Server().Top())
		}
	}
}

// P6, and no panic: steps of any numbers.
func TestP6AnyNumbers(t *testing.T) {
	r := rand.New(rand.NewSource(66))
	odd := []int{0, 1, 2, 3, 15, 16, -1, 64, 1 << 16, 1 << 17, 1<<17 + 1, 1 << 40, 1<<40 + 1, 1<<63 - 1, -1 << 63}
	pick := func() int { return odd[r.Intn(len(odd))] }
	for range 60 {
		a, b := newWorld(t, 2), newWorld(t, 2)
		for range 100 {
			s := api.Step{Kind: r.Intn(14), Node: pick(), Conn: pick(), N: pick(), Tear: pick(), Bytes: []byte("GET /"), M: randomMutation(r), Keep: make([]bool, r.Intn(3))}
			if s.Kind == api.SPass && r.Intn(20) > 0 {
				s.N = 100
			}
			was := tells(a)
			x, y := a.Step(s), b.Step(s)
			if x != y || !reflect.DeepEqual(tells(a), tells(b)) {
				t.Fatalf("%+v: error %d, again %d", s, x, y)
			}
			if x != api.OK && !reflect.DeepEqual(tells(a), was) {
				t.Fatalf("%+v has error %d, and changed something", s, x)
			}
			a.Waiting(pick(), pick())
			a.Ends(pick())
			a.Client(pick())
			Name(pick())
		}
	}
}
