package platform

import (
	"math/rand"
	"reflect"
	"slices"
	"strconv"
	"strings"
	"testing"

	"blotter/api"
	"blotter/msg"
	"blotter/tracker"
)

// sRound stands in a script for a round.
const sRound = 1000

// play does a step of a script.
func play(w *World, s api.Step) api.Errno {
	if s.Kind == sRound {
		w.Round()
		return api.OK
	}
	return w.Step(s)
}

// script is a world that chance drives, with what it should be held against.
type script struct {
	w      *World
	r      *rand.Rand
	steps  []api.Step
	errs   []api.Errno
	wanted [][]api.Logged // of each client, what it was told is taken
	log    []api.Logged   // as far as some client had it
	say    voice
}

// voice is how much of a say somebody else has.
type voice int

const (
	noToken voice = iota
	watches       // has a token, but wants nothing done
	steals        // wants things done by a client's name
)

func newScript(t testing.TB, seed int64, clients, room int, v voice) *script {
	t.Helper()
	return &script{
		w: newWorldWith(t, clients, room), r: rand.New(rand.NewSource(seed)),
		wanted: make([][]api.Logged, clients+1), say: v,
	}
}

func randomMutation(r *rand.Rand) api.Mutation {
	kinds := []int{1, 1, 1, 2, 2, 3, 4, 4, 5, 5, 6, 7, 8, 8, 9, 10, r.Intn(14) - 1}
	m := api.Mutation{Kind: kinds[r.Intn(len(kinds))], Issue: []string{"a", "b", "c", "d", "e", "f", "g"}[r.Intn(7)]}
	switch m.Kind {
	case api.KStatus:
		m.Text = []string{"open", "open", "closed"}[r.Intn(3)]
	case api.KComment, api.KEdit:
		m.Name = strconv.Itoa(r.Intn(4))
		m.Text = []string{"w", "é😀 \"\\"}[r.Intn(2)]
	case api.KCreate, api.KTitle:
		m.Text = strings.Repeat("t", 1+r.Intn(9))
	case api.KDelete:
	default:
		m.Name = strconv.Itoa(r.Intn(4))
	}
	return m
}

// machines is how many there are, somebody else aside.
func (s *script) machines() int { return s.w.Clients() + 1 }

// unsure is how many acts of a machine's disk do not last.
func (s *script) unsure(node int) int {
	if node == 0 {
		return s.w.server.disk.Pending()
	}
	return s.w.clients[node-1].disk.Pending()
}

// conn is some connection, and one of its ends.
func (s *script) conn() (int, int) {
	l := s.w.Conns()
	if len(l) == 0 || s.r.Intn(30) == 0 {
		return s.r.Intn(100), s.r.Intn(16)
	}
	conn := l[s.r.Intn(len(l))]
	who, whom, _ := s.w.Ends(conn)
	return conn, []int{who, whom, whom}[s.r.Intn(3)]
}

// others is somebody else's connections.
func others(w *World) []int {
	return slices.DeleteFunc(w.Conns(), func(conn int) bool {
		who, _, _ := w.Ends(conn)
		return who != 15
	})
}

func (s *script) pick(t testing.TB) api.Step {
	t.Helper()
	r, node := s.r, s.r.Intn(s.machines())
	conn, end := s.conn()
	switch k := r.Intn(100); {
	case k < 28:
		return api.Step{Kind: api.SMutate, Node: node, M: randomMutation(r)}
	case k < 38:
		return api.Step{Kind: api.SAct, Node: node}
	case k < 41:
		return api.Step{Kind: api.SWatch, Node: node}
	case k < 62:
		return api.Step{Kind: api.SCarry, Conn: conn, Node: end, N: []int{0, 1, 10, 100, 1000, 1 << 17, 1 << 17, 1 << 17, -1}[r.Intn(9)]}
	case k < 65:
		return api.Step{Kind: api.SCut, Conn: conn}
	case k < 71:
		return api.Step{Kind: api.SPass, N: []int{0, 50, 100, 1000, 25600, -1}[r.Intn(6)]}
	case k < 73:
		keep := make([]bool, s.unsure(node))
		for i := range keep {
			keep[i] = r.Intn(3) > 0
		}
		return api.Step{Kind: api.SCrash, Node: node, Keep: keep, Tear: r.Intn(50) - 5}
	case k < 81:
		if i := slices.Index(tells(s.w).running, false); i >= 0 && r.Intn(4) > 0 {
			node = i
		}
		return api.Step{Kind: api.SStart, Node: node}
	case k < 83:
		return api.Step{Kind: api.SCompact, Node: node}
	case k < 84:
		return api.Step{Kind: api.SRotate}
	case k < 87:
		if len(others(s.w)) > 20 {
			return api.Step{Kind: api.SCut, Conn: others(s.w)[0]}
		}
		return api.Step{Kind: api.SDial}
	case k < 94:
		return s.forgery(t)
	case k < 95:
		return api.Step{Kind: r.Intn(40) - 10, Node: r.Intn(20) - 2, Conn: r.Intn(99) - 3, N: r.Intn(9) - 3}
	}
	return api.Step{Kind: sRound}
}

// forgery is bytes of somebody else.
func (s *script) forgery(t testing.TB) api.Step {
	t.Helper()
	l := others(s.w)
	if len(l) == 0 {
		return api.Step{Kind: api.SDial}
	}
	conn := l[s.r.Intn(len(l))]
	name := Name(1 + s.r.Intn(s.w.Clients()))
	push := pushOf(name, s.w.Server().Last(name)+s.r.Intn(3), randomMutation(s.r), randomMutation(s.r))
	b := randomBytes(t, s.r, s.token(t, name), push)
	if s.r.Intn(4) == 0 && len(b) > 0 {
		b = b[:s.r.Intn(len(b))]
	}
	return api.Step{Kind: api.SForge, Conn: conn, Bytes: []byte(b)}
}

// token is what somebody else takes for one.
func (s *script) token(t testing.TB, name string) string {
	t.Helper()
	newest := s.w.secrets[len(s.w.secrets)-1].ID
	good := tokenOf(t, name, newest)
	switch {
	case s.say == noToken && s.r.Intn(2) == 0:
		return tokenOf(t, name, newest+1000)
	case s.say == noToken:
		i := s.r.Intn(len(good))
		return good[:i] + "~" + good[i+1:]
	case s.say == watches:
		// A name that no client has: what it wants done would be refused to all of them.
		return tokenOf(t, "nobody", newest)
	}
	return good
}

func randomBytes(t testing.TB, r *rand.Rand, token string, push api.Msg) string {
	t.Helper()
	pull := api.Msg{Kind: api.MPull, Client: push.Client, Cookie: r.Intn(9)}
	noise := make([]byte, r.Intn(200))
	r.Read(noise)
	pushText, _ := msg.Write(push)
	pullText, _ := msg.Write(pull)
	all := []string{
		string(noise),
		post("/push", token, pushText), post("/push", token, pushText), post("/push", token, pushText),
		post("/pull", token, pullText),
		post("/push", "", pushText),
		post("/push", token, string(noise)),
		get("/top", token), get("/nothing", token), get("/poke", token),
		get("/top", token, "connection: close"),
		getPoke(token),
		getPoke(token) + frame(t, api.OpPing, "abc", 1, 2, 3, 4),
		frame(t, api.OpPing, "abc", 1, 2, 3, 4), frame(t, api.OpText, "abc", 4, 3, 2, 1), frame(t, api.OpClose, "", 1, 1, 1, 1),
		frame(t, api.OpText, "\xff\xfe", 9, 9, 9, 9), frame(t, api.OpText, "abc"),
		"POST /push HTTP/1.1\r\nhost: a\r\ntransfer-encoding: chunked\r\n\r\n100000\r\n",
		"POST /push HTTP/1.1\r\nhost: a\r\ntransfer-encoding: chunked\r\nauthorization: Bearer " + token + "\r\n\r\n",
		crowd(1 + r.Intn(1<<17)),
		strings.Repeat("x", 9000),
		strings.Repeat(get("/top", token), 300),
	}
	return all[r.Intn(len(all))]
}

// step does one that chance picks, and holds what comes of it against the promises.
func (s *script) step(t *testing.T) {
	t.Helper()
	s.do(t, s.pick(t))
}

func (s *script) do(t *testing.T, x api.Step) {
	t.Helper()
	was := tells(s.w)
	e := play(s.w, x)
	s.steps, s.errs = append(s.steps, x), append(s.errs, e)
	now := tells(s.w)
	if e != api.OK && !reflect.DeepEqual(was, now) {
		t.Fatalf("P6: %+v has error %d, and changed something", x, e)
	}
	if x.Kind == api.SMutate && e == api.OK {
		s.want(t, x, was.clients[x.Node-1], now.clients[x.Node-1])
	}
	if !slices.Equal(now.running, was.running) && x.Kind == api.SStart {
		s.again(t, x.Node)
	}
	// What told the same ahead of the step was looked at there.
	if !reflect.DeepEqual(was.log, now.log) || !reflect.DeepEqual(was.clients, now.clients) || x.Kind == api.SStart {
		s.explained(t, now)
		s.once(t, now)
	}
	s.bounded(t, now)
}

// want takes down what a client was told is taken; P1: it is seen at once.
func (s *script) want(t *testing.T, x api.Step, was, now sees) {
	t.Helper()
	s.wanted[x.Node] = append(s.wanted[x.Node], api.Logged{Client: Name(x.Node), ID: len(s.wanted[x.Node]) + 1, M: x.M})
	view, err := tracker.Do(was.view, Name(x.Node), x.M)
	if err != nil || !slices.Equal(view, now.view) || len(now.pending) != len(was.pending)+1 {
		t.Fatalf("P1: %+v is taken (%v), but there is %v, not %v", x, err, now.view, view)
	}
}

// again: P2: starting again behind a start leads to the same, whatever is kept.
func (s *script) again(t *testing.T, node int) {
	t.Helper()
	was := tells(s.w)
	for _, x := range []api.Step{{Kind: api.SCrash, Node: node, Tear: s.r.Intn(9)}, {Kind: api.SStart, Node: node}} {
		s.steps, s.errs = append(s.steps, x), append(s.errs, play(s.w, x))
	}
	if now := tells(s.w); !reflect.DeepEqual(was, now) {
		t.Fatalf("P2: started again, machine %d tells %v, not %v", node, now, was)
	}
}

// explained: P1, P2, P16.8.
func (s *script) explained(t *testing.T, x told) {
	t.Helper()
	if !slices.Equal(x.state, leadsTo(x.log)) {
		t.Fatalf("P1: the server's state is %v, of the log %v", x.state, x.log)
	}
	for i, c := range x.clients {
		if !x.running[i+1] {
			continue
		}
		if !slices.Equal(c.view, leadsTo(c.base, c.pending)) {
			t.Fatalf("P1: client %d sees %v, with %v and %v", i+1, c.view, c.base, c.pending)
		}
		if x.running[0] && !isBeginning(c.base, x.log) {
			t.Fatalf("P16.8: client %d has %v of %v", i+1, c.base, x.log)
		}
		if len(c.base) > len(s.log) {
			s.log = c.base
		}
		if !isBeginning(c.base, s.log) {
			t.Fatalf("P2: client %d has %v, others had %v", i+1, c.base, s.log)
		}
		own := slices.Concat(ofClient(c.base, Name(i+1)), c.pending)
		if !slices.Equal(own, s.wanted[i+1]) {
			t.Fatalf("P2: client %d has %v, and was told %v", i+1, own, s.wanted[i+1])
		}
	}
	if x.running[0] && !isBeginning(s.log, x.log) {
		t.Fatalf("P2: the log is %v, and clients were told %v", x.log, s.log)
	}
}

// once: P3, P16.9, P16.11.
func (s *script) once(t *testing.T, x told) {
	t.Helper()
	if s.say == steals {
		return
	}
	n := 0
	for i, wanted := range s.wanted {
		own := ofClient(x.log, Name(i))
		if !isBeginning(own, wanted) {
			t.Fatalf("P3: the log has %v of client %d, which wanted %v", own, i, wanted)
		}
		n += len(own)
	}
	if n != len(x.log) {
		t.Fatalf("P16.11: somebody else is in the log: %v", x.log)
	}
}

// bounded: P5.
func (s *script) bounded(t *testing.T, x told) {
	t.Helper()
	for _, f := range x.conns {
		if f.there > 1<<17 || f.back > 1<<17 {
			t.Fatalf("P5: %v are on the way", f)
		}
	}
	if len(s.w.server.conns) > len(x.conns) {
		t.Fatal("P5: the server knows connections that are not there")
	}
	for _, c := range s.w.server.conns {
		if c.requests.Waiting()+c.frames.Waiting() > 1<<16 {
			t.Fatal("P5: too much waits to be read")
		}
	}
}

func isBeginning(a, l []api.Logged) bool { return len(a) <= len(l) && slices.Equal(a, l[:len(a)]) }

func ofClient(l []api.Logged, name string) []api.Logged {
	return slices.DeleteFunc(slices.Clone(l), func(x api.Logged) bool { return x.Client != name })
}

// settle: P4, P16.10: all run, somebody else is gone, and so many rounds lead to one state.
func (s *script) settle(t *testing.T) {
	t.Helper()
	for node := range s.machines() {
		if !tells(s.w).running[node] {
			s.do(t, api.Step{Kind: api.SStart, Node: node})
		}
	}
	for _, conn := range others(s.w) {
		s.do(t, api.Step{Kind: api.SCut, Conn: conn})
	}
	most, all := 0, s.w.Server().Top()
	for i := range s.w.Clients() {
		n := len(s.w.Client(i + 1).Pending())
		most, all = max(most, n), all+n
	}
	// As long as something waits, each second round is a push. Some more are for what went wrong ahead: a connection that is gone, a token that went, an answer that is on its way.
	rounds := 6 + 2*((all+7)/8+(most+7)/8)
	for range rounds {
		s.do(t, api.Step{Kind: sRound})
	}
	settled := tells(s.w)
	s.isSettled(t, settled)
	s.do(t, api.Step{Kind: sRound})
	if now := tells(s.w); !reflect.DeepEqual(now.clients, settled.clients) || !reflect.DeepEqual(now.log, settled.log) {
		t.Fatal("P4: what was settled changed")
	}
}

func (s *script) isSettled(t *testing.T, x told) {
	t.Helper()
	n := 0
	for i, c := range x.clients {
		if len(c.pending) != 0 || !slices.Equal(c.base, x.log) || !slices.Equal(c.view, x.state) {
			t.Fatalf("P4: client %d has %d of %d, and %d wait", i+1, len(c.base), len(x.log), len(c.pending))
		}
		n += len(s.wanted[i+1])
	}
	if n != len(x.log) {
		t.Fatalf("P3: %d were wanted, and the log has %d", n, len(x.log))
	}
}

// playedAgain: P6.
func (s *script) playedAgain(t *testing.T, room int) {
	t.Helper()
	w := newWorldWith(t, s.w.Clients(), room)
	for i, x := range s.steps {
		if e := play(w, x); e != s.errs[i] {
			t.Fatalf("P6: step %d, %+v, has error %d, and had %d", i, x, e, s.errs[i])
		}
	}
	if a, b := tells(s.w), tells(w); !reflect.DeepEqual(a, b) {
		t.Fatalf("P6: %v, and again %v", a, b)
	}
}

// Whatever happens: P1 to P6, and P16.8 to P16.11.
func TestP1toP6Scripts(t *testing.T) {
	top, compacted, crashed, lost := 0, 0, 0, 0
	for seed := range int64(48) {
		s := newScript(t, seed, 1+int(seed)%4, bigRoom, voice(seed%2))
		for range 400 {
			s.step(t)
		}
		s.settle(t)
		s.playedAgain(t, bigRoom)
		top += s.w.Server().Top()
		for i, x := range s.steps {
			switch {
			case s.errs[i] != api.OK:
				lost++
			case x.Kind == api.SCompact:
				compacted++
			case x.Kind == api.SCrash:
				crashed++
			}
		}
	}
	if top < 1000 || compacted < 100 || crashed < 100 || lost < 100 {
		t.Errorf("too little happened: %d in logs, %d compacted, %d crashed, %d refused", top, compacted, crashed, lost)
	}
}

// Disks that become full: all but settling.
func TestP1toP6FullDisks(t *testing.T) {
	full := 0
	for seed := range int64(40) {
		room := 500 + int(seed*997)%4000
		s := newScript(t, 1000+seed, 1+int(seed)%3, room, noToken)
		for range 300 {
			s.step(t)
		}
		s.playedAgain(t, room)
		for _, e := range s.errs {
			if e == api.ErrFull {
				full++
			}
		}
	}
	if full < 100 {
		t.Errorf("disks were full %d times", full)
	}
}

// Somebody who speaks in clients' names: what is seen is explained, and what was told stays, all the same.
func TestP1P2P6Stolen(t *testing.T) {
	stolen := 0
	for seed := range int64(40) {
		s := newScript(t, 2000+seed, 2, bigRoom, steals)
		for range 300 {
			s.step(t)
		}
		s.playedAgain(t, bigRoom)
		for i, wanted := range s.wanted {
			if !isBeginning(ofClient(s.w.Server().Log(0, 1<<30), Name(i)), wanted) {
				stolen++
			}
		}
	}
	if stolen == 0 {
		t.Error("nobody's name was stolen")
	}
}
