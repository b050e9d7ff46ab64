package client_test

import (
	"bytes"
	"errors"
	"math"
	"reflect"
	"slices"
	"strconv"
	"strings"
	"testing"
	"unsafe"

	"blotter/api"
	"blotter/client"
	"blotter/disk"
	"blotter/kvstore"
	"blotter/msg"
	"blotter/seglog"
	"blotter/tracker"
)

func newDisk(t testing.TB, room int) *disk.Disk {
	t.Helper()
	d, e := disk.New(room)
	if e != api.OK {
		t.Fatal(e)
	}
	return d
}

func open(t *testing.T, d *disk.Disk, name string) *client.Client {
	t.Helper()
	c, e := client.Open(d, name)
	if e != api.OK {
		t.Fatalf("Open has error %d", e)
	}
	return c
}

func create(issue string) api.Mutation {
	return api.Mutation{Kind: api.KCreate, Issue: issue, Text: "t"}
}

func logged(name string, id int, m api.Mutation) api.Logged {
	return api.Logged{Client: name, ID: id, M: m}
}

// patchOf is the patch of these mutations behind the first so many.
func patchOf(from int, list ...api.Logged) api.Msg {
	return api.Msg{Kind: api.MPatch, From: from, Cookie: from + len(list), Top: from + len(list), List: list}
}

func wantTaken(t *testing.T, c *client.Client, m api.Mutation, id int) {
	t.Helper()
	if n, err := c.Mutate(m); n != id || err != nil {
		t.Fatalf("Mutate(%v) is %d, %v; want %d", m, n, err, id)
	}
}

func wantFault(t *testing.T, c *client.Client, m api.Mutation, at int, why api.Errno) {
	t.Helper()
	was := tells(c)
	n, err := c.Mutate(m)
	var f api.Fault
	if n != 0 || err != (api.Fault{At: at, Why: why}) || !errors.Is(err, why) || !errors.As(err, &f) {
		t.Fatalf("Mutate(%v) is %d, %v; want %d at %d", m, n, err, why, at)
	}
	if c != nil {
		wantSame(t, "refused", c, was)
	}
}

func wantPulled(t *testing.T, c *client.Client, p api.Msg, want api.Errno) {
	t.Helper()
	was := tells(c)
	if e := c.Pulled(p); e != want {
		t.Fatalf("Pulled(%v) has error %d, want %d", p, e, want)
	}
	if want != api.OK {
		wantSame(t, "refused", c, was)
	}
}

// told is all that a client tells.
type told struct{ base, pending []api.Logged }

func tells(c *client.Client) told { return told{base: c.Base(), pending: c.Pending()} }

// view is what lists of mutations, one behind the other, lead to.
func view(lists ...[]api.Logged) []api.Entry {
	var state []api.Entry
	for _, x := range slices.Concat(lists...) {
		state, _ = tracker.Do(state, x.Client, x.M)
	}
	return state
}

// wantSame holds all that a client tells against what it should have.
func wantSame(t *testing.T, what string, c *client.Client, want told) {
	t.Helper()
	got := tells(c)
	if !slices.Equal(got.base, want.base) || !slices.Equal(got.pending, want.pending) {
		t.Fatalf("%s: %v, want %v", what, got, want)
	}
	if l := c.View(); !slices.Equal(l, view(want.base, want.pending)) {
		t.Fatalf("%s: it sees %v, want %v", what, l, view(want.base, want.pending))
	}
	first := want.pending[:min(8, len(want.pending))]
	if m, ok := c.Push(); ok != (len(first) > 0) || !slices.Equal(m.List, first) || ok && msg.Check(m) != api.OK {
		t.Fatalf("%s: it pushes %v, %t", what, m, ok)
	}
	if m, ok := c.Pull(); !ok || m.Cookie != len(want.base) || msg.Check(m) != api.OK {
		t.Fatalf("%s: it pulls %v, %t", what, m, ok)
	}
}

// The document's example.
func TestP15Example(t *testing.T) {
	c := open(t, newDisk(t, 100000), "c1")
	wantTaken(t, c, create("a"), 1)
	wantFault(t, c, create("a"), 1, api.ErrThere)
	p, ok := c.Push()
	if !ok || !reflect.DeepEqual(p, api.Msg{Kind: api.MPush, Client: "c1", List: []api.Logged{logged("c1", 1, create("a"))}}) {
		t.Fatalf("%v, %t", p, ok)
	}
	patch := patchOf(0, p.List...)
	wantPulled(t, c, patch, api.OK)
	wantSame(t, "pulled", c, told{base: p.List})
	wantPulled(t, c, patch, api.ErrPatch)
}

func TestP15_5Wait(t *testing.T) {
	for n, want := range map[int]int{
		0: 100, 1: 200, 2: 400, 3: 800, 4: 1600, 5: 3200, 6: 6400, 7: 12800, 8: 25600, 9: 25600, 99: 25600,
		64: 25600, math.MaxInt: 25600, -1: 100, -8: 100, math.MinInt: 100,
	} {
		if got := client.Wait(n); got != want {
			t.Errorf("Wait(%d) is %d, want %d", n, got, want)
		}
	}
}

func TestP15_1Unmade(t *testing.T) {
	for _, c := range []*client.Client{nil, {}} {
		for _, m := range []api.Mutation{create("a"), {}} {
			if n, err := c.Mutate(m); n != 0 || err != (api.Fault{Why: api.ErrNil}) {
				t.Errorf("Mutate: %d, %v", n, err)
			}
		}
		if len(c.View()) != 0 || len(c.Base()) != 0 || len(c.Pending()) != 0 {
			t.Error("it tells something")
		}
		if m, ok := c.Push(); ok || !reflect.DeepEqual(m, api.Msg{}) {
			t.Errorf("Push: %v, %t", m, ok)
		}
		if m, ok := c.Pull(); ok || !reflect.DeepEqual(m, api.Msg{}) {
			t.Errorf("Pull: %v, %t", m, ok)
		}
		for _, p := range []api.Msg{patchOf(0), {}} {
			if e := c.Pulled(p); e != api.ErrNil {
				t.Errorf("Pulled has error %d", e)
			}
		}
		if e := c.Compact(); e != api.ErrNil {
			t.Errorf("Compact has error %d", e)
		}
	}
}

// Of several things that are wrong the first one is answered, and a disk that is not opened is left alone.
func TestP15_1Open(t *testing.T) {
	for _, d := range []*disk.Disk{nil, {}} {
		for _, name := range []string{"c1", "", "a b"} {
			if c, e := client.Open(d, name); c != nil || e != api.ErrNil {
				t.Errorf("%q: %v, error %d", name, c, e)
			}
		}
	}
	good, noStore, other := newDisk(t, 100000), newDisk(t, 100000), newDisk(t, 100000)
	log, _ := seglog.Open(noStore)
	log.Append([]byte("x"))
	store, _ := kvstore.Open(other)
	store.Commit([]api.Op{{Key: "x", Value: "1"}})
	for _, d := range []*disk.Disk{good, noStore, other} {
		d.Write("seg.0000000000000000009", []byte("torn"))
		pending := d.Pending()
		for _, name := range []string{"", "a b", "a/b", "é", "\xff", strings.Repeat("n", 25)} {
			if c, e := client.Open(d, name); c != nil || e != api.ErrName {
				t.Errorf("%q: %v, error %d", name, c, e)
			}
		}
		if b, _ := d.Read("seg.0000000000000000009"); d.Pending() != pending || string(b) != "torn" {
			t.Error("the disk was worked on")
		}
		d.Drop("seg.0000000000000000009")
	}
	for _, name := range []string{"c1", "a", "A.b-_9", strings.Repeat("n", 24)} {
		wantSame(t, name, open(t, good, name), told{})
	}
	if c, e := client.Open(noStore, "c1"); c != nil || e != api.ErrStore {
		t.Errorf("%v, error %d", c, e)
	}
	if c, e := client.Open(other, "c1"); c != nil || e != api.ErrQueue {
		t.Errorf("%v, error %d", c, e)
	}
}

func TestP15_2Mutate(t *testing.T) {
	c := open(t, newDisk(t, 100000), "c1")
	wantTaken(t, c, create("a"), 1)
	comment := api.Mutation{Kind: api.KComment, Issue: "a", Name: "n", Text: "w"}
	wantTaken(t, c, comment, 2)
	for _, x := range []struct {
		m   api.Mutation
		at  int
		why api.Errno
	}{
		{api.Mutation{}, 0, api.ErrMutation},
		{api.Mutation{Kind: 11, Issue: "a"}, 0, api.ErrMutation},
		{create("a b"), 1, api.ErrMutation},
		{api.Mutation{Kind: api.KLabel, Issue: "a"}, 2, api.ErrMutation},
		{api.Mutation{Kind: api.KTitle, Issue: "a"}, 3, api.ErrMutation},
		{api.Mutation{Kind: api.KTitle, Issue: "a", Text: strings.Repeat("t", 513)}, 3, api.ErrMutation},
		{create("a"), 1, api.ErrThere},
		{api.Mutation{Kind: api.KDelete, Issue: "b"}, 1, api.ErrMissing},
		{comment, 2, api.ErrThere},
	} {
		wantFault(t, c, x.m, x.at, x.why)
	}
	// What somebody else did counts, where the base has it.
	wantPulled(t, c, patchOf(0, logged("c1", 1, create("a")), logged("c2", 1, create("b")), logged("c2", 2, api.Mutation{Kind: api.KComment, Issue: "b", Name: "n", Text: "w"})), api.OK)
	wantFault(t, c, create("b"), 1, api.ErrThere)
	wantFault(t, c, api.Mutation{Kind: api.KEdit, Issue: "b", Name: "n", Text: "x"}, 2, api.ErrOther)
	wantTaken(t, c, api.Mutation{Kind: api.KDelete, Issue: "b"}, 3)
	wantTaken(t, c, create("b"), 4)
	// Also what of its own waits: a closed issue takes no label.
	wantTaken(t, c, api.Mutation{Kind: api.KStatus, Issue: "a", Text: "closed"}, 5)
	wantFault(t, c, api.Mutation{Kind: api.KLabel, Issue: "a", Name: "l"}, 1, api.ErrClosed)
}

// The 33rd one that would wait is refused; one that is wrong is told so even then.
func TestP15_2Most(t *testing.T) {
	d := newDisk(t, 100000)
	c := open(t, d, "c1")
	for i := range 32 {
		wantTaken(t, c, create("i"+strconv.Itoa(i)), 1+i)
	}
	used := d.Used()
	wantFault(t, c, create("more"), 0, api.ErrFull)
	wantFault(t, c, create("i0"), 1, api.ErrThere)
	wantFault(t, c, api.Mutation{}, 0, api.ErrMutation)
	if d.Used() != used {
		t.Error("something was written")
	}
	wantSame(t, "opened again", open(t, d, "c1"), tells(c))
	wantPulled(t, c, patchOf(0, c.Pending()[0]), api.OK)
	wantTaken(t, c, create("more"), 33)
	wantFault(t, c, create("more2"), 0, api.ErrFull)
}

// What is answered with nil lasts; nothing is written but the key of the one that waits.
func TestP15_2Lasts(t *testing.T) {
	d, twin := newDisk(t, 100000), newDisk(t, 100000)
	c := open(t, d, "c1")
	store, _ := kvstore.Open(twin)
	wantTaken(t, c, create("a"), 1)
	store.Commit([]api.Op{{Key: "q/0000000000000000001", Value: `{"client":"c1","id":1,"m":{"issue":"a","kind":1,"name":"","text":"t"}}`}})
	wantFiles(t, d, twin)
	if d.Pending() != 0 {
		t.Error("it does not last")
	}
	d.Crash(nil, 0)
	c = open(t, d, "c1")
	wantSame(t, "behind a crash", c, told{pending: []api.Logged{logged("c1", 1, create("a"))}})
	wantTaken(t, c, create("b"), 2)
}

func wantFiles(t *testing.T, d, want *disk.Disk) {
	t.Helper()
	if !slices.Equal(d.List(), want.List()) {
		t.Fatalf("%v, want %v", d.List(), want.List())
	}
	for _, name := range want.List() {
		a, _ := d.Read(name)
		b, _ := want.Read(name)
		if !bytes.Equal(a, b) {
			t.Fatalf("%s: %q, want %q", name, a, b)
		}
	}
}

// A disk without room.
func TestP15_8NoRoom(t *testing.T) {
	d := newDisk(t, 400)
	c := open(t, d, "c1")
	n := 1
	for ; n < 9; n++ {
		if _, err := c.Mutate(create("i" + strconv.Itoa(n))); err != nil {
			break
		}
	}
	if n == 1 || n == 9 {
		t.Fatalf("%d had room", n-1)
	}
	was := tells(c)
	wantFault(t, c, create("i9"), 0, api.ErrFull)
	wantFault(t, c, create("i1"), 1, api.ErrThere)
	list := []api.Logged{was.pending[0], logged("c2", 1, create("x")), logged("c2", 2, create("y")), logged("c2", 3, create("z"))}
	wantPulled(t, c, patchOf(0, list...), api.ErrFull)
	// Nothing that comes needs no room; a patch that does not fit is told so.
	wantPulled(t, c, patchOf(0), api.OK)
	wantPulled(t, c, patchOf(1, list...), api.ErrPatch)
	if e := c.Compact(); e != api.ErrFull {
		t.Errorf("Compact has error %d", e)
	}
	wantSame(t, "without room", c, was)
	wantSame(t, "opened again", open(t, d, "c1"), was)
}

// Somebody takes the files away from beneath a client whose next record begins a new one.
func TestP15_2CommitFails(t *testing.T) {
	d := newDisk(t, 100000)
	c := open(t, d, "c1")
	for i := 1; d.Used() < api.Segment; i++ {
		wantTaken(t, c, api.Mutation{Kind: api.KCreate, Issue: "i" + strconv.Itoa(i), Text: strings.Repeat("t", 500)}, i)
	}
	for _, name := range d.List() {
		d.Drop(name)
	}
	wantFault(t, c, create("a"), 0, api.ErrFile)
	wantPulled(t, c, patchOf(0, logged("c2", 1, create("x"))), api.ErrFile)
	wantPulled(t, c, patchOf(0), api.OK)
	if e := c.Compact(); e != api.ErrFile {
		t.Errorf("Compact has error %d", e)
	}
}

func TestP15_3PushPull(t *testing.T) {
	c := open(t, newDisk(t, 100000), "c1")
	for n := range 20 {
		m, ok := c.Push()
		want := api.Msg{}
		if n > 0 {
			want = api.Msg{Kind: api.MPush, Client: "c1", List: c.Pending()[:min(n, 8)]}
		}
		if ok != (n > 0) || !reflect.DeepEqual(m, want) {
			t.Fatalf("%d wait: %v, %t", n, m, ok)
		}
		if m, ok := c.Pull(); !ok || !reflect.DeepEqual(m, api.Msg{Kind: api.MPull, Client: "c1"}) {
			t.Fatalf("%v, %t", m, ok)
		}
		wantTaken(t, c, create("i"+strconv.Itoa(n)), n+1)
	}
	wantPulled(t, c, patchOf(0, append(c.Pending()[:3], logged("c2", 1, create("x")))...), api.OK)
	if m, ok := c.Pull(); !ok || !reflect.DeepEqual(m, api.Msg{Kind: api.MPull, Client: "c1", Cookie: 4}) {
		t.Fatalf("%v, %t", m, ok)
	}
	if m, ok := c.Push(); !ok || m.List[0].ID != 4 || len(m.List) != 8 || !slices.Equal(m.List, c.Pending()[:8]) {
		t.Fatalf("%v, %t", m, ok)
	}
}

// waiting is a client with a base of three mutations, and two that wait.
func waiting(t *testing.T, d *disk.Disk) *client.Client {
	t.Helper()
	c := open(t, d, "c1")
	wantTaken(t, c, create("a"), 1)
	wantPulled(t, c, patchOf(0, logged("c2", 1, create("b")), logged("c1", 1, create("a")), logged("c2", 2, create("a"))), api.OK)
	wantTaken(t, c, create("d"), 2)
	wantTaken(t, c, create("e"), 3)
	return c
}

func TestP15_4Refused(t *testing.T) {
	d := newDisk(t, 100000)
	c := waiting(t, d)
	x := func(id int) api.Logged { return logged("c2", id, create("x")) }
	y := func(id int) api.Logged { return logged("c3", id, create("y")) }
	second, third := logged("c1", 2, create("d")), logged("c1", 3, create("e"))
	files := d.Clone()
	for _, p := range []api.Msg{
		{}, {Kind: api.MPush, Client: "c1", List: []api.Logged{second}}, {Kind: api.MPull, Client: "c1", Cookie: 3}, {Kind: api.MPushed}, {Kind: api.MPoke, Top: 3}, {Kind: 6},
		{Kind: api.MPatch, From: 3, Cookie: 4, Top: 4}, {Kind: api.MPatch, From: 3, Cookie: 4, Top: 3, List: []api.Logged{x(3)}}, {Kind: api.MPatch, From: 3, Cookie: 3, Top: 4, List: []api.Logged{x(3)}},
		{Kind: api.MPatch, Client: "c1", From: 3, Cookie: 3, Top: 3}, {Kind: api.MPatch, From: 3, Cookie: 3, Top: 3, Last: -1}, {Kind: api.MPatch, From: 3, Cookie: 3, Top: 1<<40 + 1},
		patchOf(-1), patchOf(-1, x(3)), patchOf(3, logged("c2", 3, create("a b"))), patchOf(3, logged("c 2", 1, create("x"))), patchOf(3, x(0)), patchOf(3, x(-1)), patchOf(3, x(3), x(4), x(5), x(6), x(7), x(8), x(9), x(10), x(11)),
		// What can't be is told ahead of what does not fit.
		patchOf(9, logged("c2", 9, create(""))),
	} {
		wantPulled(t, c, p, api.ErrMsg)
	}
	for _, p := range []api.Msg{
		patchOf(0), patchOf(2), patchOf(4), patchOf(1 << 39), patchOf(2, x(3)), patchOf(4, x(3)), patchOf(0, logged("c2", 1, create("b"))),
		patchOf(3, x(1)), patchOf(3, x(2)), patchOf(3, x(4)), patchOf(3, x(math.MaxInt)), patchOf(3, x(3), x(3)), patchOf(3, x(3), x(5)), patchOf(3, x(3), x(2)), patchOf(3, x(4), x(3)), patchOf(3, y(2)), patchOf(3, y(1), y(1)), patchOf(3, x(3), y(2)), patchOf(3, y(1), x(4)), patchOf(3, y(1), x(3), y(3)),
		patchOf(3, third), patchOf(3, third, second), patchOf(3, logged("c1", 1, create("a"))), patchOf(3, logged("c1", 2, create("e"))), patchOf(3, logged("c1", 3, create("d"))), patchOf(3, second, second), patchOf(3, second, logged("c1", 3, create("d"))), patchOf(3, second, third, logged("c1", 4, create("f"))), patchOf(3, x(3), logged("c1", 2, create("x"))), patchOf(3, second, x(3), logged("c1", 4, create("e"))),
		patchOf(3, logged("c1", 2, api.Mutation{Kind: api.KCreate, Issue: "d", Text: "T"})), patchOf(3, logged("c1", 2, api.Mutation{Kind: api.KTitle, Issue: "d", Text: "t"})),
	} {
		wantPulled(t, c, p, api.ErrPatch)
	}
	wantFiles(t, d, files)
	if d.Pending() != files.Pending() {
		t.Error("something was written")
	}
	idle := open(t, newDisk(t, 100000), "c1")
	wantPulled(t, idle, patchOf(0, logged("c1", 1, create("a"))), api.ErrPatch)
}

func TestP15_4Pulled(t *testing.T) {
	x := func(id int) api.Logged { return logged("c2", id, create("x")) }
	y := func(id int) api.Logged { return logged("c3", id, create("y")) }
	second, third := logged("c1", 2, create("d")), logged("c1", 3, create("e"))
	for _, list := range [][]api.Logged{
		{}, {x(3)}, {y(1)}, {x(3), y(1), y(2), x(4)}, {second}, {second, third}, {x(3), second, y(1), third, x(4)}, {y(1), y(2), y(3), y(4), y(5), y(6), y(7), y(8)}, {y(1), y(2), y(3), y(4), y(5), y(6), second, third},
	} {
		d := newDisk(t, 100000)
		c := waiting(t, d)
		want := tells(c)
		p := patchOf(3, list...)
		p.Top += 7
		p.Last = 99
		wantPulled(t, c, p, api.OK)
		want.base = append(want.base, list...)
		want.pending = slices.DeleteFunc(want.pending, func(x api.Logged) bool { return slices.Contains(list, x) })
		wantSame(t, "pulled", c, want)
		wantSame(t, "opened again", open(t, d, "c1"), want)
		if len(list) > 0 {
			wantPulled(t, c, p, api.ErrPatch)
		}
		wantTaken(t, c, create("next"), 4)
	}
}

// The commit of a patch: for each of the list its key, and that of one's own that waits no more.
func TestP15_4Commit(t *testing.T) {
	d := newDisk(t, 100000)
	c := waiting(t, d)
	twin := d.Clone()
	store, _ := kvstore.Open(twin)
	list := []api.Logged{logged("c3", 1, create("y")), logged("c1", 2, create("d")), logged("c1", 3, create("e")), logged("c2", 3, create("x"))}
	var values []string
	for _, x := range list {
		s, _ := msg.Put(x)
		values = append(values, s)
	}
	pending := d.Pending()
	wantPulled(t, c, patchOf(3, list...), api.OK)
	store.Commit([]api.Op{
		{Key: "b/0000000000000000004", Value: values[0]},
		{Key: "b/0000000000000000005", Value: values[1]}, {Key: "q/0000000000000000002", Gone: true},
		{Key: "b/0000000000000000006", Value: values[2]}, {Key: "q/0000000000000000003", Gone: true},
		{Key: "b/0000000000000000007", Value: values[3]},
	})
	wantFiles(t, d, twin)
	if d.Pending() != pending+1 {
		t.Errorf("%d acts instead of one", d.Pending()-pending)
	}
	wantPulled(t, c, patchOf(7), api.OK)
	wantFiles(t, d, twin)
	if c.Compact() != api.OK || store.Compact() != api.OK {
		t.Error("it is not compacted")
	}
	wantFiles(t, d, twin)
}

// Whatever is done to answers and arguments, what the client has stays.
func TestP15_1Memory(t *testing.T) {
	d := newDisk(t, 100000)
	c := waiting(t, d)
	want := tells(c)
	want = told{base: slices.Clone(want.base), pending: slices.Clone(want.pending)}
	for range 2 {
		base, pending, seen := c.Base(), c.Pending(), c.View()
		push, _ := c.Push()
		clear(base[:cap(base)])
		clear(pending[:cap(pending)])
		clear(seen[:cap(seen)])
		clear(push.List[:cap(push.List)])
		wantSame(t, "cleared answers", c, want)
	}
	list := make([]api.Logged, 2, 8)
	copy(list, []api.Logged{logged("c2", 3, create("x")), want.pending[0]})
	room := slices.Clone(list[:8])
	wantPulled(t, c, patchOf(3, list...), api.OK)
	if !slices.Equal(room, list[:8]) {
		t.Error("the patch changed")
	}
	want.base, want.pending = append(want.base, list...), want.pending[1:]
	clear(list[:8])
	wantSame(t, "a cleared patch", c, want)
}

// Texts that are handed in, which may be pieces of long ones, are not kept.
func TestP15_2OwnTexts(t *testing.T) {
	name := strings.Clone("c1")
	c := open(t, newDisk(t, 100000), name)
	m := api.Mutation{Kind: api.KCreate, Issue: strings.Clone("issue"), Text: strings.Clone("title")}
	wantTaken(t, c, m, 1)
	kept := c.Pending()[0]
	push, _ := c.Push()
	for _, pair := range [][2]string{{kept.M.Issue, m.Issue}, {kept.M.Text, m.Text}, {kept.Client, name}, {push.Client, name}} {
		if unsafe.StringData(pair[0]) == unsafe.StringData(pair[1]) {
			t.Errorf("%q is the one that was handed in", pair[0])
		}
	}
}
