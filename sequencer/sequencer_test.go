package sequencer_test

import (
	"math"
	"reflect"
	"slices"
	"strconv"
	"strings"
	"testing"

	"blotter/api"
	"blotter/disk"
	"blotter/kvstore"
	"blotter/msg"
	"blotter/seglog"
	"blotter/sequencer"
	"blotter/wire"
)

func newDisk(t *testing.T, room int) *disk.Disk {
	t.Helper()
	d, e := disk.New(room)
	if e != api.OK {
		t.Fatal(e)
	}
	return d
}

func open(t *testing.T, d *disk.Disk) *sequencer.Server {
	t.Helper()
	s, e := sequencer.Open(d)
	if e != api.OK {
		t.Fatalf("Open has error %d", e)
	}
	return s
}

func create(issue string) api.Mutation {
	return api.Mutation{Kind: api.KCreate, Issue: issue, Text: "t"}
}

func label(issue, name string) api.Mutation {
	return api.Mutation{Kind: api.KLabel, Issue: issue, Name: name}
}

// pushOf is a client's push of mutations with the IDs from first on.
func pushOf(client string, first int, l ...api.Mutation) api.Msg {
	m := api.Msg{Kind: api.MPush, Client: client}
	for i, x := range l {
		m.List = append(m.List, api.Logged{Client: client, ID: first + i, M: x})
	}
	return m
}

func pullOf(client string, cookie int) api.Msg {
	return api.Msg{Kind: api.MPull, Client: client, Cookie: cookie}
}

func wantPushed(t *testing.T, s *sequencer.Server, m api.Msg, last, top int) {
	t.Helper()
	if got, e := s.Push(m); e != api.OK || !reflect.DeepEqual(got, api.Msg{Kind: api.MPushed, Last: last, Top: top}) {
		t.Fatalf("Push(%v) is %v, error %d", m, got, e)
	}
}

func wantPatch(t *testing.T, s *sequencer.Server, m api.Msg, want api.Msg) {
	t.Helper()
	got, e := s.Pull(m)
	if len(got.List) == 0 {
		got.List = nil
	}
	if e != api.OK || !reflect.DeepEqual(got, want) {
		t.Fatalf("Pull(%v) is %v, error %d; want %v", m, got, e, want)
	}
	if msg.Check(got) != api.OK {
		t.Fatalf("Pull(%v) is no message that may be: %v", m, got)
	}
}

func wantRefused(t *testing.T, what string, m api.Msg, e, want api.Errno) {
	t.Helper()
	if e != want || !reflect.DeepEqual(m, api.Msg{}) {
		t.Errorf("%s: %v, error %d, want %d", what, m, e, want)
	}
}

// told is all that a server tells.
type told struct {
	log   []api.Logged
	state []api.Entry
	last  []int
}

func tells(s *sequencer.Server) told {
	x := told{log: s.Log(0, math.MaxInt), state: s.State()}
	for _, client := range []string{"c1", "c2", "c3"} {
		x.last = append(x.last, s.Last(client))
	}
	return x
}

func wantSame(t *testing.T, what string, s *sequencer.Server, want told) {
	t.Helper()
	got := tells(s)
	if !slices.Equal(got.log, want.log) || !slices.Equal(got.state, want.state) || !slices.Equal(got.last, want.last) || s.Top() != len(want.log) {
		t.Fatalf("%s: %v, want %v", what, got, want)
	}
}

// The document's first example.
func TestP14Example(t *testing.T) {
	s := open(t, newDisk(t, 100000))
	one := pushOf("c1", 1, create("a"))
	wantPushed(t, s, one, 1, 1)
	wantPushed(t, s, one, 1, 1)
	m, e := s.Push(pushOf("c1", 3, create("b")))
	wantRefused(t, "a gap", m, e, api.ErrGap)
	wantPatch(t, s, pullOf("c2", 0), api.Msg{Kind: api.MPatch, Cookie: 1, Top: 1, List: one.List})
	m, e = s.Pull(pullOf("c2", 2))
	wantRefused(t, "too far", m, e, api.ErrGap)
}

func TestP14_1Unmade(t *testing.T) {
	for _, s := range []*sequencer.Server{nil, {}} {
		if s.Top() != 0 || s.Last("c1") != 0 || len(s.State()) != 0 || len(s.Log(0, 9)) != 0 {
			t.Error("it tells something")
		}
		m, e := s.Push(pushOf("c1", 1, create("a")))
		wantRefused(t, "Push", m, e, api.ErrNil)
		m, e = s.Push(api.Msg{})
		wantRefused(t, "Push of nothing", m, e, api.ErrNil)
		m, e = s.Pull(pullOf("c1", 0))
		wantRefused(t, "Pull", m, e, api.ErrNil)
		if e := s.Compact(); e != api.ErrNil {
			t.Errorf("Compact has error %d", e)
		}
		for _, path := range []string{"/top", "/none", "/push"} {
			if a := s.Handle(nil, 0, api.Request{Method: "GET", Path: path}); !reflect.DeepEqual(a, api.Answer{Status: 500}) {
				t.Errorf("%s: %v", path, a)
			}
		}
	}
	for _, d := range []*disk.Disk{nil, {}} {
		if s, e := sequencer.Open(d); s != nil || e != api.ErrNil {
			t.Errorf("%v, error %d", s, e)
		}
	}
}

func TestP14_1Calls(t *testing.T) {
	s := open(t, newDisk(t, 100000))
	wantSame(t, "a new one", s, told{last: []int{0, 0, 0}})
	wantPushed(t, s, pushOf("c1", 1, create("a"), label("a", "l")), 2, 2)
	wantPushed(t, s, pushOf("c2", 1, create("a")), 1, 3) // does nothing, but is in the log
	wantPushed(t, s, pushOf("c1", 3, create("b")), 3, 4)
	log := []api.Logged{{Client: "c1", ID: 1, M: create("a")}, {Client: "c1", ID: 2, M: label("a", "l")}, {Client: "c2", ID: 1, M: create("a")}, {Client: "c1", ID: 3, M: create("b")}}
	open := `{"owner":"","status":"open","title":"t"}`
	wantSame(t, "all", s, told{log: log, state: []api.Entry{{Key: "i/a", Value: open}, {Key: "i/b", Value: open}, {Key: "l/a/l", Value: "1"}}, last: []int{3, 1, 0}})
	for _, x := range []struct{ from, most, first, end int }{
		{0, 1, 0, 1}, {0, 4, 0, 4}, {0, 5, 0, 4}, {1, 2, 1, 3}, {3, 1, 3, 4}, {3, math.MaxInt, 3, 4},
		{4, 1, 0, 0}, {5, 1, 0, 0}, {-1, 9, 0, 0}, {0, 0, 0, 0}, {0, -1, 0, 0}, {math.MaxInt, math.MaxInt, 0, 0}, {math.MinInt, 9, 0, 0}, {1, math.MinInt, 0, 0},
	} {
		if got := s.Log(x.from, x.most); !slices.Equal(got, log[x.first:x.end]) {
			t.Errorf("Log(%d, %d) is %v", x.from, x.most, got)
		}
	}
	for _, client := range []string{"", "c", "c 1", "\xff", "n/c1"} {
		if got := s.Last(client); got != 0 {
			t.Errorf("the last of %q is %d", client, got)
		}
	}
}

func TestP14_2Push(t *testing.T) {
	s := open(t, newDisk(t, 100000))
	for _, m := range []api.Msg{{}, pullOf("c1", 0), {Kind: api.MPush, Client: "c1"}, {Kind: api.MPushed}, {Kind: api.MPatch}, {Kind: api.MPoke}, pushOf("c 1", 1, create("a")), pushOf("c1", 0, create("a")), pushOf("c1", -1, create("a"), create("b"), create("c")),
		{Kind: api.MPush, Client: "c2", List: pushOf("c1", 1, create("a")).List}, pushOf("c1", 1, create("a b")), pushOf("c1", 5, create("")), pushOf("c1", 1, slices.Repeat([]api.Mutation{create("a")}, 9)...)} {
		got, e := s.Push(m)
		wantRefused(t, "no push", got, e, api.ErrMsg)
	}
	for _, first := range []int{2, 3, math.MaxInt} {
		got, e := s.Push(pushOf("c1", first, create("a")))
		wantRefused(t, "a gap", got, e, api.ErrGap)
	}
	wantSame(t, "refused", s, told{last: []int{0, 0, 0}})
	wantPushed(t, s, pushOf("c1", 1, create("a"), create("b")), 2, 2)
	// Those that are there already are not looked at again, whatever they say now.
	wantPushed(t, s, pushOf("c1", 2, create("x"), create("c"), create("d")), 4, 4)
	wantPushed(t, s, pushOf("c1", 1, slices.Repeat([]api.Mutation{create("y")}, 3)...), 4, 4)
	wantPushed(t, s, pushOf("c2", 1, slices.Repeat([]api.Mutation{create("z")}, 8)...), 8, 12)
	got, e := s.Push(pushOf("c1", 6, create("e")))
	wantRefused(t, "a gap", got, e, api.ErrGap)
	var issues []string
	for _, x := range s.Log(0, 5) {
		issues = append(issues, x.Client+x.M.Issue+strconv.Itoa(x.ID))
	}
	if !slices.Equal(issues, []string{"c1a1", "c1b2", "c1c3", "c1d4", "c2z1"}) {
		t.Errorf("%v", issues)
	}
}

func TestP14_3Pull(t *testing.T) {
	s := open(t, newDisk(t, 100000))
	wantPatch(t, s, pullOf("c1", 0), api.Msg{Kind: api.MPatch})
	var log []api.Logged
	for i := range 20 {
		client := []string{"c1", "c2"}[i%2]
		wantPushed(t, s, pushOf(client, 1+i/2, create("a"+strconv.Itoa(i))), 1+i/2, i+1)
		log = append(log, api.Logged{Client: client, ID: 1 + i/2, M: create("a" + strconv.Itoa(i))})
	}
	for _, x := range []struct{ from, cookie, last1, last2 int }{{0, 8, 4, 4}, {1, 9, 5, 4}, {2, 10, 5, 5}, {8, 16, 8, 8}, {11, 19, 10, 9}, {12, 20, 10, 10}, {15, 20, 10, 10}, {19, 20, 10, 10}, {20, 20, 10, 10}} {
		want := api.Msg{Kind: api.MPatch, From: x.from, Cookie: x.cookie, Top: 20}
		if x.from < x.cookie {
			want.List = log[x.from:x.cookie]
		}
		wantPatch(t, s, pullOf("c3", x.from), want)
		want.Last = x.last1
		wantPatch(t, s, pullOf("c1", x.from), want)
		want.Last = x.last2
		wantPatch(t, s, pullOf("c2", x.from), want)
	}
	for _, cookie := range []int{21, 22, 1 << 40} {
		got, e := s.Pull(pullOf("c1", cookie))
		wantRefused(t, "too far", got, e, api.ErrGap)
	}
	for _, m := range []api.Msg{{}, pushOf("c1", 1, create("a")), pullOf("", 0), pullOf("c 1", 0), pullOf("c1", -1), pullOf("c1", 1<<40+1), pullOf("c1", math.MinInt), {Kind: api.MPull, Client: "c1", Top: 1}, {Kind: api.MPatch}, {Kind: api.MPoke}} {
		got, e := s.Pull(m)
		wantRefused(t, "no pull", got, e, api.ErrMsg)
	}
}

// keysOf is the keys of a commit's record, in its order, and its version.
func keysOf(t *testing.T, rec []byte) (int, []string) {
	t.Helper()
	c := wire.From(rec)
	if kind, _ := c.Byte(); kind != 1 {
		t.Fatalf("a record of kind %d", kind)
	}
	version, _ := c.Number()
	n, _ := c.Number()
	var keys []string
	for range n {
		key, _ := c.Text(api.MaxKey)
		if gone, _ := c.Byte(); gone == 1 {
			key += " gone"
		} else {
			c.Text(api.MaxValue)
		}
		keys = append(keys, key)
	}
	return version, keys
}

// Each mutation is one commit, of these keys in this order.
func TestP14_1Commits(t *testing.T) {
	d := newDisk(t, 100000)
	s := open(t, d)
	comment := api.Mutation{Kind: api.KComment, Issue: "a", Name: "n", Text: "w"}
	wantPushed(t, s, pushOf("c1", 1, create("a"), label("a", "x"), comment, create("a"), api.Mutation{Kind: api.KAssign, Issue: "a", Name: "c1"}), 5, 5)
	wantPushed(t, s, pushOf("B.2", 1, label("a", "b"), api.Mutation{Kind: api.KDelete, Issue: "a"}, create("a")), 3, 8)
	log, e := seglog.Open(d.Clone())
	if e != api.OK {
		t.Fatal(e)
	}
	want := [][]string{
		{"m/0000000000001", "n/c1", "d/i/a"}, {"m/0000000000002", "n/c1", "d/l/a/x"}, {"m/0000000000003", "n/c1", "d/c/a/n"}, {"m/0000000000004", "n/c1"}, {"m/0000000000005", "n/c1", "d/i/a"},
		{"m/0000000000006", "n/B.2", "d/l/a/b"}, {"m/0000000000007", "n/B.2", "d/c/a/n gone", "d/i/a gone", "d/l/a/b gone", "d/l/a/x gone"}, {"m/0000000000008", "n/B.2", "d/i/a"},
	}
	for i, rec := range log.Read(1) {
		if version, keys := keysOf(t, rec); version != i+1 || !slices.Equal(keys, want[i]) {
			t.Errorf("commit %d: %v, want %d %v", version, keys, i+1, want[i])
		}
	}
	store, e := kvstore.Open(d.Clone())
	if e != api.OK || store.Version() != 8 || store.Synced() != 8 {
		t.Fatal(e, store.Version())
	}
	var keys []string
	for _, item := range store.Scan("", "") {
		keys = append(keys, item.Key)
		want := item.Value
		switch {
		case item.Key == "n/c1":
			want = "5"
		case item.Key == "n/B.2":
			want = "3"
		case item.Key == "d/i/a":
			want = `{"owner":"","status":"open","title":"t"}`
		case strings.HasPrefix(item.Key, "m/"):
			want, _ = msg.Put(s.Log(item.At-1, 1)[0])
		}
		if item.Value != want {
			t.Errorf("%v, want %q", item, want)
		}
	}
	if !slices.Equal(keys, []string{"d/i/a", "m/0000000000001", "m/0000000000002", "m/0000000000003", "m/0000000000004", "m/0000000000005", "m/0000000000006", "m/0000000000007", "m/0000000000008", "n/B.2", "n/c1"}) {
		t.Errorf("%v", keys)
	}
}

// The mutations and their IDs, the first issue's keys and the numbers in keys may be as long as can be.
func TestP14_2Longest(t *testing.T) {
	d := newDisk(t, api.MaxRoom)
	s := open(t, d)
	name := func(head string, i int) string {
		digits := strconv.Itoa(i)
		return head + strings.Repeat("n", api.MaxName-len(head)-len(digits)) + digits
	}
	words := strings.Repeat("\x01", api.MaxText)
	client, issue := name("c", 0), name("i", 0)
	l := []api.Mutation{{Kind: api.KCreate, Issue: issue, Text: words}, {Kind: api.KAssign, Issue: issue, Name: client}}
	for i := range api.MaxComments + 1 {
		l = append(l, api.Mutation{Kind: api.KComment, Issue: issue, Name: name("m", i), Text: words})
	}
	for i := range api.MaxLabels + 1 {
		l = append(l, label(issue, name("l", i)))
	}
	l = append(l, api.Mutation{Kind: api.KDelete, Issue: issue})
	for i, m := range l {
		wantPushed(t, s, pushOf(client, i+1, m), i+1, i+1)
		if i == len(l)-2 && len(s.State()) != 1+api.MaxComments+api.MaxLabels {
			t.Errorf("%d entries", len(s.State()))
		}
	}
	if len(s.State()) != 0 {
		t.Errorf("%v", s.State())
	}
	wantSame(t, "opened again", open(t, d), tells(s))
}

func TestP14_3Compact(t *testing.T) {
	d := newDisk(t, 100000)
	s := open(t, d)
	for i := range 40 {
		wantPushed(t, s, pushOf("c1", i+1, api.Mutation{Kind: []int{api.KCreate, api.KDelete}[i%2], Issue: "a", Text: []string{"t", ""}[i%2]}), i+1, i+1)
	}
	was := tells(s)
	if e := s.Compact(); e != api.OK {
		t.Fatal(e)
	}
	wantSame(t, "compacted", s, was)
	wantSame(t, "compacted, opened", open(t, d), was)
	if log, _ := seglog.Open(d.Clone()); log.First() == 1 {
		t.Error("nothing was taken away")
	}
	wantPushed(t, s, pushOf("c1", 41, create("b")), 41, 41)
	d.Crash(nil, 0)
	again := open(t, d)
	wantSame(t, "behind a crash", again, tells(s))
	wantPushed(t, again, pushOf("c2", 1, create("c")), 1, 42)
}

// Neither a list that is handed in nor an answer's is the server's own.
func TestP14_1Memory(t *testing.T) {
	s := open(t, newDisk(t, 100000))
	m := pushOf("c1", 1, create("a"), create("b"), create("c"))
	room := slices.Clone(m.List)
	m.List = m.List[:2]
	wantPushed(t, s, m, 2, 2)
	if !slices.Equal(m.List[:3], room) {
		t.Error("what was handed in changed")
	}
	clear(m.List[:3])
	was := tells(s)
	p, _ := s.Pull(pullOf("c1", 0))
	for _, l := range [][]api.Logged{p.List, s.Log(0, 9), s.Log(1, 1)} {
		clear(l[:cap(l)])
	}
	l := s.State()
	clear(l[:cap(l)])
	a, b := s.Log(0, 1), s.Log(0, 1)
	clear(a[:cap(a)])
	if !slices.Equal(b, was.log[:1]) {
		t.Error("two answers share memory")
	}
	wantSame(t, "answers cleared", s, was)
}
