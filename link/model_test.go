package link_test

import (
	"math/rand"
	"slices"
	"testing"

	"blotter/api"
	"blotter/link"
)

// channel is a connection as the model sees it: all that was ever sent in each direction, and how much of it was carried.
type channel struct {
	ends    [2]int
	sent    [2]string // by the end that sends
	carried [2]int    // of sent
	shut    [2]bool
	gone    bool
}

// model keeps every connection for ever.
type model struct{ all []*channel }

func (m *model) live() []int {
	var out []int
	for i, c := range m.all {
		if !c.gone {
			out = append(out, i+1)
		}
	}
	return out
}

// get is a connection that is there and the index of one of its ends.
func (m *model) get(id, node int) (*channel, int, api.Errno) {
	if id < 1 || id > len(m.all) || m.all[id-1].gone {
		return nil, 0, api.ErrConn
	}
	i := slices.Index(m.all[id-1].ends[:], node)
	if i < 0 {
		return nil, 0, api.ErrArg
	}
	return m.all[id-1], i, api.OK
}

func (c *channel) waiting(from int) int { return len(c.sent[from]) - c.carried[from] }

func (c *channel) settle() {
	if c.shut[0] && c.shut[1] && c.waiting(0) == 0 && c.waiting(1) == 0 {
		c.gone = true
	}
}

func (m *model) dial(a, b int) (int, api.Errno) {
	if a == b || min(a, b) < 0 || max(a, b) > 15 {
		return 0, api.ErrArg
	}
	if len(m.live()) == 64 {
		return 0, api.ErrFull
	}
	m.all = append(m.all, &channel{ends: [2]int{a, b}})
	return len(m.all), api.OK
}

func (m *model) send(id, from int, b string) api.Errno {
	c, i, e := m.get(id, from)
	switch {
	case e != api.OK:
		return e
	case c.shut[i]:
		return api.ErrShut
	case c.waiting(i)+len(b) > 1<<17:
		return api.ErrFull
	}
	c.sent[i] += b
	return api.OK
}

func (m *model) carry(id, to, most int) (string, api.Errno) {
	c, i, e := m.get(id, to)
	if e != api.OK {
		return "", e
	}
	if most < 0 {
		return "", api.ErrArg
	}
	from := 1 - i
	k := min(most, c.waiting(from))
	out := c.sent[from][c.carried[from] : c.carried[from]+k]
	c.carried[from] += k
	c.settle()
	return out, api.OK
}

func (m *model) close(id, from int) api.Errno {
	c, i, e := m.get(id, from)
	if e != api.OK {
		return e
	}
	if c.shut[i] {
		return api.ErrShut
	}
	c.shut[i] = true
	c.settle()
	return api.OK
}

func (m *model) drop(node int) int {
	k := 0
	for _, c := range m.all {
		if !c.gone && slices.Contains(c.ends[:], node) {
			c.gone = true
			k++
		}
	}
	return k
}

// agree holds all that a net tells against the model.
func agree(t *testing.T, n *link.Net, m *model) {
	t.Helper()
	if !slices.Equal(n.Conns(), m.live()) {
		t.Fatalf("Conns %v, want %v", n.Conns(), m.live())
	}
	for id := 0; id <= len(m.all)+1; id++ {
		for node := -1; node <= 6; node++ {
			c, i, e := m.get(id, node)
			waiting, done := 0, true
			if e == api.OK {
				waiting = c.waiting(1 - i)
				done = c.shut[1-i] && waiting == 0
			}
			if k, f := n.Waiting(id, node); k != waiting || f != e {
				t.Fatalf("Waiting(%d, %d): %d, error %d, want %d, error %d", id, node, k, f, waiting, e)
			}
			if n.Done(id, node) != done {
				t.Fatalf("Done(%d, %d) is not %v", id, node, done)
			}
		}
		var ends [2]int
		e := api.ErrConn
		if slices.Contains(m.live(), id) {
			ends, e = m.all[id-1].ends, api.OK
		}
		if a, b, f := n.Ends(id); [2]int{a, b} != ends || f != e {
			t.Fatalf("Ends(%d): %d, %d, error %d, want %v, error %d", id, a, b, f, ends, e)
		}
	}
}

// step does one thing to both, and asks that both answer the same.
func step(t *testing.T, r *rand.Rand, n *link.Net, m *model) {
	t.Helper()
	id, node := r.Intn(len(m.all)+2), r.Intn(7)-1
	if live := m.live(); len(live) > 0 && r.Intn(8) > 0 {
		id = live[r.Intn(len(live))]
		node = m.all[id-1].ends[r.Intn(2)]
	}
	switch kind := r.Intn(20); {
	case kind < 4:
		a, b := r.Intn(7)-1, r.Intn(7)-1
		x, e := n.Dial(a, b)
		if y, f := m.dial(a, b); x != y || e != f {
			t.Fatalf("Dial(%d, %d): %d, error %d, want %d, error %d", a, b, x, e, y, f)
		}
	case kind < 10:
		b := make([]byte, r.Intn(5))
		if r.Intn(10) == 0 {
			b = make([]byte, r.Intn(1<<17))
		}
		for i := range b {
			b[i] = byte('a' + r.Intn(26))
		}
		if e, f := n.Send(id, node, b), m.send(id, node, string(b)); e != f {
			t.Fatalf("Send(%d, %d, %d bytes): error %d, want %d", id, node, len(b), e, f)
		}
	case kind < 15:
		most := r.Intn(6) - 1
		if r.Intn(4) == 0 {
			most = r.Intn(1 << 18)
		}
		x, e := n.Carry(id, node, most)
		if y, f := m.carry(id, node, most); string(x) != y || e != f {
			t.Fatalf("Carry(%d, %d, %d): %d bytes, error %d, want %d, error %d", id, node, most, len(x), e, len(y), f)
		}
	case kind < 18:
		if e, f := n.Close(id, node), m.close(id, node); e != f {
			t.Fatalf("Close(%d, %d): error %d, want %d", id, node, e, f)
		}
	case kind < 19 || r.Intn(4) > 0:
		c, _, f := m.get(id, node)
		if f != api.ErrConn {
			c, f = m.all[id-1], api.OK
			c.gone = true
		}
		if e := n.Cut(id); e != f {
			t.Fatalf("Cut(%d): error %d, want %d", id, e, f)
		}
	default:
		if x, y := n.Drop(node), m.drop(node); x != y {
			t.Fatalf("Drop(%d): %d, want %d", node, x, y)
		}
	}
}

// Whatever is done: in order, apart, each number once, and what is gone stays so.
func TestP3_5P3_7P3_9Model(t *testing.T) {
	for seed := range int64(60) {
		r := rand.New(rand.NewSource(seed))
		n, m := link.New(), &model{}
		for range 150 {
			step(t, r, n, m)
			agree(t, n, m)
		}
	}
}
