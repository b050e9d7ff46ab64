package sequencer_test

import (
	"math/rand"
	"slices"
	"strconv"
	"testing"

	"blotter/api"
	"blotter/disk"
	"blotter/sequencer"
	"blotter/tracker"
)

// model is a server that keeps its log alone, and works out all else from its beginning.
type model struct {
	log   []api.Logged
	stays int // so many of them were there when a push or a pull last answered OK
}

func (w *model) last(client string) int {
	n := 0
	for _, x := range w.log {
		if x.Client == client {
			n++
		}
	}
	return n
}

// tells is what a server with this log tells.
func (w *model) tells() told {
	x := told{log: w.log}
	for _, m := range w.log {
		x.state, _ = tracker.Do(x.state, m.Client, m.M)
	}
	for _, client := range modelClients {
		x.last = append(x.last, w.last(client))
	}
	return x
}

var modelClients = []string{"c1", "c2", "c3"}

func randomMutation(r *rand.Rand) api.Mutation {
	kinds := []int{1, 1, 1, 2, 3, 4, 5, 5, 5, 6, 7, 8, 8, 9, 10}
	m := api.Mutation{Kind: kinds[r.Intn(len(kinds))], Issue: []string{"a", "a.", "b", "B"}[r.Intn(4)]}
	switch m.Kind {
	case api.KStatus:
		m.Text = []string{"open", "open", "closed"}[r.Intn(3)]
	case api.KComment, api.KEdit:
		m.Name = strconv.Itoa(r.Intn(4))
		m.Text = []string{"w", "é😀 \"\\"}[r.Intn(2)]
	case api.KCreate, api.KTitle:
		m.Text = "t" + strconv.Itoa(r.Intn(9))
	case api.KDelete:
	default:
		m.Name = strconv.Itoa(r.Intn(4))
	}
	return m
}

// push pushes something, old, new or too far, and holds the answer against the model.
func (w *model) push(t *testing.T, r *rand.Rand, s *sequencer.Server) {
	t.Helper()
	client := modelClients[r.Intn(3)]
	first := max(1, w.last(client)+1+r.Intn(9)-7)
	var l []api.Mutation
	for range 1 + r.Intn(8) {
		l = append(l, randomMutation(r))
	}
	m := pushOf(client, first, l...)
	got, e := s.Push(m)
	if first > w.last(client)+1 {
		wantRefused(t, "a gap", got, e, api.ErrGap)
		return
	}
	fresh := m.List[min(len(m.List), w.last(client)+1-first):]
	if e == api.ErrFull {
		// Some of them were taken, up to the one for which there was no room.
		taken := s.Top() - len(w.log)
		if taken < 0 || taken >= len(fresh) {
			t.Fatalf("%d of %d were taken", taken, len(fresh))
		}
		w.log = append(w.log, fresh[:taken]...)
		wantRefused(t, "without room", got, e, api.ErrFull)
		return
	}
	w.log = append(w.log, fresh...)
	if e != api.OK || got.Kind != api.MPushed || got.Last != w.last(client) || got.Top != len(w.log) {
		t.Fatalf("%v: %v, error %d", m, got, e)
	}
	w.stays = len(w.log)
}

// pull pulls from anywhere.
func (w *model) pull(t *testing.T, r *rand.Rand, s *sequencer.Server) {
	t.Helper()
	client, from := modelClients[r.Intn(3)], r.Intn(len(w.log)+2)
	got, e := s.Pull(pullOf(client, from))
	if from > len(w.log) {
		wantRefused(t, "too far", got, e, api.ErrGap)
		return
	}
	list := w.log[from:min(from+8, len(w.log))]
	last := (&model{log: w.log[:from+len(list)]}).last(client)
	if e != api.OK || got.Kind != api.MPatch || got.From != from || got.Cookie != from+len(list) || got.Last != last || got.Top != len(w.log) || !slices.Equal(got.List, list) {
		t.Fatalf("%v from %d: %v, error %d", client, from, got, e)
	}
	w.stays = len(w.log)
}

// crash loses some of what does not last, and opens what is left.
func (w *model) crash(t *testing.T, r *rand.Rand, d *disk.Disk) *sequencer.Server {
	t.Helper()
	keep := make([]bool, d.Pending())
	for i := range keep {
		keep[i] = r.Intn(3) > 0
	}
	d.Crash(keep, r.Intn(40))
	s := open(t, d)
	if s.Top() < w.stays || s.Top() > len(w.log) {
		t.Fatalf("%d are left of %d, of which %d were told", s.Top(), len(w.log), w.stays)
	}
	w.log = w.log[:s.Top()]
	w.stays = s.Top()
	return s
}

// Whatever is pushed, pulled, lost and compacted: each ID once, in order, and the state that the log leads to.
func TestP14_5to7Model(t *testing.T) {
	r := rand.New(rand.NewSource(147))
	lost, full := 0, 0
	for round := range 60 {
		room := 1 << 20
		if round%3 == 0 {
			room = 3000 + r.Intn(9000)
		}
		d := newDisk(t, room)
		s := open(t, d)
		w := &model{}
		for range 60 {
			switch k := r.Intn(20); {
			case k < 11:
				w.push(t, r, s)
			case k < 15:
				w.pull(t, r, s)
			case k < 16:
				s.Compact()
			case k < 17:
				s = open(t, d)
			default:
				was := len(w.log)
				s = w.crash(t, r, d)
				lost += was - len(w.log)
			}
			if w.stays < len(w.log) {
				full++
			}
			wantSame(t, "round "+strconv.Itoa(round), s, w.tells())
		}
	}
	if lost == 0 || full == 0 {
		t.Errorf("%d lost, %d times full", lost, full)
	}
}

// A push that was answered, pushed again, changes nothing, on the disk too.
func TestP14_8Again(t *testing.T) {
	r := rand.New(rand.NewSource(148))
	d := newDisk(t, 1<<20)
	s := open(t, d)
	w := &model{}
	for range 60 {
		client := modelClients[r.Intn(3)]
		m := pushOf(client, w.last(client)+1, randomMutation(r), randomMutation(r), randomMutation(r))
		first, e := s.Push(m)
		w.log = append(w.log, m.List...)
		was, used := tells(s), d.Used()
		again, e2 := s.Push(m)
		if e != api.OK || e2 != api.OK || first.Last != again.Last || first.Top != again.Top || d.Used() != used || d.Pending() != 0 {
			t.Fatalf("%v, %v, errors %d, %d", first, again, e, e2)
		}
		wantSame(t, "again", s, was)
	}
}

// Pulls one behind the other tell the whole log.
func TestP14_9Pages(t *testing.T) {
	r := rand.New(rand.NewSource(149))
	for n := range 40 {
		s := open(t, newDisk(t, 1<<20))
		w := &model{}
		for range n {
			client := modelClients[r.Intn(3)]
			m := pushOf(client, w.last(client)+1, randomMutation(r))
			s.Push(m)
			w.log = append(w.log, m.List...)
		}
		var log []api.Logged
		cookie := 0
		for range n/8 + 1 {
			p, e := s.Pull(pullOf("c1", cookie))
			if e != api.OK || p.From != cookie || p.Top != n {
				t.Fatalf("%v, error %d", p, e)
			}
			log = append(log, p.List...)
			cookie = p.Cookie
		}
		if cookie != n || !slices.Equal(log, w.log) {
			t.Fatalf("%d of %d", cookie, n)
		}
	}
}
