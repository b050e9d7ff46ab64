package client_test

import (
	"math/rand"
	"reflect"
	"slices"
	"strconv"
	"testing"

	"blotter/api"
	"blotter/client"
	"blotter/disk"
	"blotter/sequencer"
	"blotter/tracker"
)

func randomMutation(r *rand.Rand) api.Mutation {
	kinds := []int{1, 1, 1, 2, 3, 4, 5, 5, 5, 6, 7, 8, 8, 9, 10}
	m := api.Mutation{Kind: kinds[r.Intn(len(kinds))], Issue: []string{"a", "a.", "b", "B", "c"}[r.Intn(5)]}
	switch m.Kind {
	case api.KStatus:
		m.Text = []string{"open", "open", "closed"}[r.Intn(3)]
	case api.KComment, api.KEdit:
		m.Name = strconv.Itoa(r.Intn(4))
		m.Text = []string{"w", "é😀 \"\\"}[r.Intn(2)]
	case api.KCreate, api.KTitle:
		m.Text = "t" + strconv.Itoa(r.Intn(9))
	case api.KDelete:
	default:
		m.Name = strconv.Itoa(r.Intn(4))
	}
	return m
}

// model is a client that keeps lists alone, and works out all else from their beginning.
type model struct {
	name   string
	wanted []api.Logged // its own, all that were taken
	log    []api.Logged // a server's, of which it has the first ones
	has    int
	lasts  []int // how many it may have behind a crash
}

func (w *model) own(list []api.Logged) int {
	n := 0
	for _, x := range list {
		if x.Client == w.name {
			n++
		}
	}
	return n
}

func (w *model) told() told {
	base := w.log[:w.has]
	return told{base: base, pending: w.wanted[w.own(base):]}
}

// mutate wants something done: what is answered is what the view says.
func (w *model) mutate(t *testing.T, r *rand.Rand, c *client.Client) {
	t.Helper()
	m := randomMutation(r)
	x := w.told()
	n, err := c.Mutate(m)
	_, why := tracker.Changes(view(x.base, x.pending), w.name, m)
	switch {
	case why != nil:
		if n != 0 || err != why {
			t.Fatalf("%v: %d, %v, want %v", m, n, err, why)
		}
	case len(x.pending) == 32 || err == api.Fault{Why: api.ErrFull}:
		if n != 0 || err != (api.Fault{Why: api.ErrFull}) {
			t.Fatalf("%v: %d, %v with %d that wait", m, n, err, len(x.pending))
		}
	default:
		w.wanted = append(w.wanted, logged(w.name, len(w.wanted)+1, m))
		if n != len(w.wanted) || err != nil {
			t.Fatalf("%v: %d, %v, want %d", m, n, err, len(w.wanted))
		}
		w.lasts = []int{w.has}
	}
}

// serve lets the log grow, by the client's own ones and by others'.
func (w *model) serve(r *rand.Rand) {
	for range 1 + r.Intn(5) {
		name := []string{w.name, "c2", "c3"}[r.Intn(3)]
		n := (&model{name: name}).own(w.log)
		if name != w.name {
			w.log = append(w.log, logged(name, n+1, randomMutation(r)))
		} else if n < len(w.wanted) {
			w.log = append(w.log, w.wanted[n])
		}
	}
}

// pull takes a patch from somewhere in the log on.
func (w *model) pull(t *testing.T, r *rand.Rand, c *client.Client) {
	t.Helper()
	from := w.has
	if r.Intn(6) == 0 {
		from = r.Intn(len(w.log) + 1)
	}
	n := r.Intn(min(8, len(w.log)-from) + 1)
	e := c.Pulled(patchOf(from, w.log[from:from+n]...))
	switch {
	case from != w.has:
		if e != api.ErrPatch {
			t.Fatalf("from %d, with %d: error %d", from, w.has, e)
		}
	case e == api.ErrFull && n > 0:
	default:
		if e != api.OK {
			t.Fatalf("error %d", e)
		}
		w.has += n
		w.lasts = append(w.lasts, w.has)
	}
}

// crash loses some of what does not last, and opens what is left.
func (w *model) crash(t *testing.T, r *rand.Rand, d *disk.Disk) *client.Client {
	t.Helper()
	keep := make([]bool, d.Pending())
	for i := range keep {
		keep[i] = r.Intn(3) > 0
	}
	d.Crash(keep, r.Intn(40))
	c := open(t, d, w.name)
	if !slices.Contains(w.lasts, len(c.Base())) {
		t.Fatalf("%d are left of %d; %v may be", len(c.Base()), w.has, w.lasts)
	}
	w.has = len(c.Base())
	w.lasts = []int{w.has}
	return c
}

// Whatever is wanted, pulled, lost and compacted: what was taken is in the base or waits, and the view is what they lead to.
func TestP15_6to9Model(t *testing.T) {
	r := rand.New(rand.NewSource(1569))
	lost, full, most := 0, 0, 0
	for round := range 50 {
		room := 1 << 20
		if round%3 == 0 {
			room = 3000 + r.Intn(9000)
		}
		d := newDisk(t, room)
		w := &model{name: "c1", lasts: []int{0}}
		c := open(t, d, w.name)
		eager := r.Intn(23)
		for range 70 {
			switch k := r.Intn(32); {
			case k < eager:
				for range 3 {
					w.mutate(t, r, c)
				}
			case k < 22:
				w.serve(r)
				w.pull(t, r, c)
			case k < 24:
				if c.Compact() == api.OK {
					w.lasts = []int{w.has}
				}
			case k < 26:
				c = open(t, d, w.name)
				w.lasts = []int{w.has}
			default:
				was := w.has
				c = w.crash(t, r, d)
				lost += was - w.has
			}
			want := w.told()
			wantSame(t, "round "+strconv.Itoa(round), c, want)
			most = max(most, len(want.pending))
			if d.Used() > room-200 {
				full++
			}
		}
	}
	if lost == 0 || full == 0 || most < 32 {
		t.Errorf("%d lost, %d times full, at most %d waited", lost, full, most)
	}
}

// world is a server and clients that talk without anything between them.
type world struct {
	disks   []*disk.Disk
	server  *sequencer.Server
	clients []*client.Client
	wanted  [][]api.Logged
}

func newWorld(t *testing.T, clients int) *world {
	t.Helper()
	w := &world{wanted: make([][]api.Logged, clients), clients: make([]*client.Client, clients)}
	for range clients + 1 {
		w.disks = append(w.disks, newDisk(t, 1<<20))
	}
	for i := range w.disks {
		w.start(t, i)
	}
	return w
}

func nameOf(i int) string { return "c" + strconv.Itoa(i) }

// start opens machine i again, which is the server, if it is the last one.
func (w *world) start(t *testing.T, i int) {
	t.Helper()
	if i < len(w.clients) {
		w.clients[i] = open(t, w.disks[i], nameOf(i))
		return
	}
	s, e := sequencer.Open(w.disks[i])
	if e != api.OK {
		t.Fatalf("the server has error %d", e)
	}
	w.server = s
}

func (w *world) crash(t *testing.T, r *rand.Rand, i int) {
	t.Helper()
	d := w.disks[i]
	keep := make([]bool, d.Pending())
	for k := range keep {
		keep[k] = r.Intn(2) == 0
	}
	d.Crash(keep, r.Intn(9))
	w.start(t, i)
}

// push pushes what client i has; its answer may be lost, nobody needs it.
func (w *world) push(t *testing.T, i int) bool {
	t.Helper()
	m, ok := w.clients[i].Push()
	if !ok {
		return false
	}
	top := w.server.Top()
	if a, e := w.server.Push(m); e != api.OK || a.Last < m.List[len(m.List)-1].ID {
		t.Fatalf("%v is answered by %v, error %d", m, a, e)
	}
	return w.server.Top() > top
}

// pull pulls for client i, whom the answer may not reach; whether something new came.
func (w *world) pull(t *testing.T, i int, reaches bool) bool {
	t.Helper()
	m, _ := w.clients[i].Pull()
	p, e := w.server.Pull(m)
	if e != api.OK {
		t.Fatalf("%v has error %d", m, e)
	}
	if !reaches {
		return false
	}
	if e := w.clients[i].Pulled(p); e != api.OK {
		t.Fatalf("%v has error %d", p, e)
	}
	return len(p.List) > 0
}

// explained holds what each one tells against the server's log.
func (w *world) explained(t *testing.T) {
	t.Helper()
	log := w.server.Log(0, w.server.Top())
	for i, c := range w.clients {
		x := tells(c)
		if len(x.base) > len(log) || !slices.Equal(x.base, log[:len(x.base)]) {
			t.Fatalf("%s has %v of %v", nameOf(i), x.base, log)
		}
		var own []api.Logged
		for _, m := range x.base {
			if m.Client == nameOf(i) {
				own = append(own, m)
			}
		}
		if !slices.Equal(append(own, x.pending...), w.wanted[i]) {
			t.Fatalf("%s wanted %v, has %v and %v", nameOf(i), w.wanted[i], own, x.pending)
		}
		wantSame(t, nameOf(i), c, x)
	}
}

// step does something that chance picks.
func (w *world) step(t *testing.T, r *rand.Rand) {
	t.Helper()
	i := r.Intn(len(w.clients))
	switch k := r.Intn(20); {
	case k < 8:
		m := randomMutation(r)
		if n, err := w.clients[i].Mutate(m); err == nil {
			w.wanted[i] = append(w.wanted[i], logged(nameOf(i), n, m))
		}
	case k < 12:
		w.push(t, i)
	case k < 16:
		w.pull(t, i, r.Intn(3) > 0)
	case k < 17:
		w.clients[i].Compact()
	case k < 18:
		w.server.Compact()
	default:
		w.crash(t, r, r.Intn(len(w.disks)))
	}
}

// settle lets all push and pull till nothing new comes.
func (w *world) settle(t *testing.T) {
	t.Helper()
	for fresh := true; fresh; {
		fresh = false
		for i := range w.clients {
			pushed, pulled := w.push(t, i), w.pull(t, i, true)
			fresh = fresh || pushed || pulled
		}
	}
}

func TestP15_10Settled(t *testing.T) {
	r := rand.New(rand.NewSource(1510))
	for range 60 {
		w := newWorld(t, 1+r.Intn(4))
		for range 80 {
			w.step(t, r)
			w.explained(t)
		}
		w.settle(t)
		w.explained(t)
		for i, c := range w.clients {
			if len(c.Pending()) != 0 || !slices.Equal(c.View(), w.server.State()) || !reflect.DeepEqual(c.Base(), w.clients[0].Base()) {
				t.Fatalf("%s has %v that wait, and sees %v, not %v", nameOf(i), c.Pending(), c.View(), w.server.State())
			}
		}
	}
}
