package kvstore_test

import (
	"fmt"
	"maps"
	"math/rand"
	"slices"
	"strings"
	"testing"

	"blotter/api"
	"blotter/disk"
	"blotter/kvstore"
)

// wish is a record as somebody might have made it, and what it says, if it can be.
type wish struct {
	kind    int // 0: none that there is
	good    bool
	version int
	items   []api.Item
	bytes   string
}

func (w wish) String() string { return fmt.Sprintf("%q", w.bytes) }

func wishedCommit(version int, keys ...string) wish {
	var forms []string
	var items []api.Item
	for _, key := range keys {
		forms = append(forms, held(key, "c"))
		items = append(items, api.Item{Key: key, Value: "c", At: version})
	}
	return wish{kind: 1, good: true, version: version, items: items, bytes: commitRec(version, forms...)}
}

func wishedItem(at int, key string) wish {
	return wish{kind: 2, good: at > 0, items: []api.Item{{Key: key, Gone: true, At: at}}, bytes: itemRec(at, lost(key))}
}

func wishedEnd(version int) wish {
	return wish{kind: 3, good: true, version: version, bytes: endRec(version)}
}

func wishedBeginning() wish { return wish{kind: 4, good: true, bytes: beginning} }

// wished is a record by chance.
func wished(r *rand.Rand, version int) wish {
	w := wish{bytes: []string{"", "\x00", "\x07x"}[r.Intn(3)]}
	switch k := r.Intn(40); {
	case k < 12:
		w = wishedCommit(version+1, []string{"a", "b", "c"}[:1+r.Intn(3)]...)
	case k < 20:
		w = wishedBeginning()
	case k < 29:
		w = wishedItem(r.Intn(4), string("abcd"[r.Intn(4)]))
	case k < 38:
		w = wishedEnd(1 + r.Intn(4))
	case k < 39:
		w = wishedCommit(r.Intn(4), "a")
	}
	if r.Intn(25) == 0 {
		w.good = false
		w.bytes += "\x00"
	}
	return w
}

// snapshotAt is what the snapshot that begins at i has, if one does that has an end and can be, and where it ends.
func snapshotAt(all []wish, i int) (map[string]api.Item, int, bool) {
	if all[i].kind != 4 || !all[i].good {
		return nil, 0, false
	}
	items, key, top := map[string]api.Item{}, "", 0
	for j := i + 1; j < len(all); j++ {
		w := all[j]
		if w.kind == 3 && w.good && top <= w.version {
			return items, j, true
		}
		if w.kind != 2 || !w.good || w.items[0].Key <= key {
			return nil, 0, false
		}
		key, top = w.items[0].Key, max(top, w.items[0].At)
		items[key] = w.items[0]
	}
	return nil, 0, false
}

// oracle is the store that records say: it looks for a snapshot that can be, from the last record back, and holds each record behind it against the one ahead of that.
func oracle(first int, all []wish) (map[string]api.Item, int, bool) {
	items, version, next, found := map[string]api.Item{}, 0, 0, false
	for i := len(all) - 1; i >= 0 && !found; i-- {
		if got, end, ok := snapshotAt(all, i); ok {
			items, version, next, found = got, all[end].version, end+1, true
		}
	}
	if !found && first != 1 {
		return nil, 0, false
	}
	for i := next; i < len(all); i++ {
		w := all[i]
		ahead := wish{}
		if i > next {
			ahead = all[i-1]
		}
		switch {
		case !w.good || w.kind == 3:
			return nil, 0, false
		case w.kind == 2 && ahead.kind != 4 && (ahead.kind != 2 || ahead.items[0].Key >= w.items[0].Key):
			return nil, 0, false
		case w.kind == 1 && w.version != version+1:
			return nil, 0, false
		case w.kind == 1:
			version++
			for _, item := range w.items {
				items[item.Key] = item
			}
		}
	}
	return items, version, true
}

// sorted is items by rising keys.
func sorted(items map[string]api.Item) []api.Item {
	var out []api.Item
	for _, key := range slices.Sorted(maps.Keys(items)) {
		out = append(out, items[key])
	}
	return out
}

func TestP6_1AnyRecords(t *testing.T) {
	opened, refused := 0, 0
	for seed := range int64(20000) {
		r := rand.New(rand.NewSource(seed))
		first := 1 + r.Intn(4)/3
		var all []wish
		var forms []string
		version := 0
		for range r.Intn(9) {
			w := wished(r, version)
			if w.kind == 1 || w.kind == 3 {
				version = w.version
			}
			all, forms = append(all, w), append(forms, w.bytes)
		}
		items, version, ok := oracle(first, all)
		d := saying(t, first, forms...)
		s, e := kvstore.Open(d)
		switch {
		case ok && (e != api.OK || s.Version() != version || s.Synced() != version || !slices.Equal(s.Since(0), sorted(items))):
			t.Fatalf("seed %d: %v from %d on: error %d, %s, want %d %v", seed, all, first, e, told(s), version, items)
		case !ok && (e != api.ErrStore || s != nil):
			t.Fatalf("seed %d: %v from %d on: error %d", seed, all, first, e)
		case ok:
			opened++
		default:
			refused++
		}
	}
	if opened < 2000 || refused < 2000 {
		t.Errorf("%d opened, %d refused", opened, refused)
	}
}

// model is a store that keeps what there was at each version.
type model struct {
	past   []map[string]api.Item
	synced int
}

func newModel() *model { return &model{past: []map[string]api.Item{{}}} }

func (m *model) version() int { return len(m.past) - 1 }

func (m *model) now() map[string]api.Item { return m.past[m.version()] }

func (m *model) commit(ops []api.Op) {
	next := maps.Clone(m.now())
	for _, op := range ops {
		next[op.Key] = api.Item{Key: op.Key, Gone: op.Gone, Value: op.Value, At: len(m.past)}
	}
	m.past = append(m.past, next)
}

// crashed takes away what a crash took, which is nothing that was synced.
func (m *model) crashed(t *testing.T, what string, s *kvstore.Store) {
	t.Helper()
	if s.Version() < m.synced || s.Version() > m.version() {
		t.Fatalf("%s: version %d behind a crash, synced %d, was %d", what, s.Version(), m.synced, m.version())
	}
	m.past = m.past[:s.Version()+1]
	m.synced = s.Version()
}

// check asks that a store tells what the model does.
func (m *model) check(t *testing.T, what string, s *kvstore.Store) {
	t.Helper()
	all := sorted(m.now())
	there := slices.DeleteFunc(slices.Clone(all), func(item api.Item) bool { return item.Gone })
	if s.Version() != m.version() || s.Synced() != m.synced || !slices.Equal(s.Since(0), all) || !slices.Equal(s.Scan("", ""), there) {
		t.Fatalf("%s: %s, want version %d, synced %d, %v", what, told(s), m.version(), m.synced, all)
	}
	for _, item := range all {
		got, ok := s.Get(item.Key)
		if ok == item.Gone || ok && got != item || !ok && got != (api.Item{}) {
			t.Fatalf("%s: Get(%q) is %v, %v, want %v", what, item.Key, got, ok, item)
		}
	}
}

// someOps is ops by chance, of few keys, some with long values.
func someOps(r *rand.Rand, step int) []api.Op {
	var ops []api.Op
	for _, k := range r.Perm(6)[:1+r.Intn(4)] {
		op := set(string("abcdef"[k]), fmt.Sprint(step, strings.Repeat("x", r.Intn(2)*r.Intn(1500))))
		if r.Intn(4) == 0 {
			op = gone(op.Key)
		}
		ops = append(ops, op)
	}
	return ops
}

func chance(r *rand.Rand, n int) []bool {
	out := make([]bool, n)
	for i := range out {
		out[i] = r.Intn(2) == 0
	}
	return out
}

// step does one call by chance on both.
func step(t *testing.T, r *rand.Rand, what string, d *disk.Disk, s *kvstore.Store, m *model, i int) *kvstore.Store {
	t.Helper()
	switch k := r.Intn(20); {
	case k < 11:
		ops := someOps(r, i)
		v, e := s.Commit(ops)
		if e == api.ErrFull && v == 0 {
			break
		}
		m.commit(ops)
		if e != api.OK || v != m.version() {
			t.Fatalf("%s: Commit: %d, error %d", what, v, e)
		}
	case k < 13:
		must(t, s.Sync())
		m.synced = m.version()
	case k < 15:
		e := s.Compact()
		if e == api.OK {
			m.synced = m.version()
		} else if e != api.ErrFull {
			t.Fatalf("%s: Compact: error %d", what, e)
		}
	case k < 16:
		s = open(t, d)
		m.synced = m.version()
	default:
		must(t, d.Crash(chance(r, d.Pending()), r.Intn(40)))
		s = open(t, d)
		m.crashed(t, what, s)
	}
	return s
}

// P6.1 to P6.6 and P6.8 hold of any calls and crashes, on disks that are full now and then.
func TestP6_5AnyCallsAndCrashes(t *testing.T) {
	for seed := range int64(300) {
		r := rand.New(rand.NewSource(seed))
		d := fresh(t, 6000+r.Intn(30000))
		s, m := open(t, d), newModel()
		for i := range 60 {
			what := fmt.Sprint("seed ", seed, ", step ", i)
			s = step(t, r, what, d, s, m, i)
			m.check(t, what, s)
		}
	}
}

// grown is a store behind commits by chance, its disk and its model.
func grown(t *testing.T, r *rand.Rand) (*kvstore.Store, *disk.Disk, *model) {
	t.Helper()
	d := fresh(t, api.MaxRoom)
	s, m := open(t, d), newModel()
	for i := range 2 + r.Intn(15) {
		ops := someOps(r, i)
		commit(t, s, ops...)
		m.commit(ops)
	}
	return s, d, m
}

func TestP6_6Compacted(t *testing.T) {
	for seed := range int64(200) {
		r := rand.New(rand.NewSource(seed))
		s, d, m := grown(t, r)
		before := s.Bytes()
		for range 1 + r.Intn(3) {
			must(t, s.Compact())
		}
		m.synced = m.version()
		what := fmt.Sprint("seed ", seed)
		m.check(t, what, s)
		must(t, d.Crash(nil, 0))
		m.check(t, what+", opened", open(t, d))
		for range 3 {
			must(t, s.Compact())
		}
		// Trimmed, it is no more than some snapshots and a segment: it does not grow for ever.
		if s.Bytes() > 4*before+8*api.Segment {
			t.Fatalf("%s: %d bytes, %d ahead of compacting", what, s.Bytes(), before)
		}
		for v := range m.past {
			if !slices.Equal(open(t, d).Since(v), s.Since(v)) {
				t.Fatalf("%s: Since(%d) has changed", what, v)
			}
		}
	}
}

// Compacting again and again takes no more room than one snapshot and the segments in which it stands.
func TestP6_6RoomIsFreed(t *testing.T) {
	d := fresh(t, 40000)
	s := open(t, d)
	for i := range 500 {
		if _, e := s.Commit([]api.Op{set("a", strings.Repeat("x", 1000)), set(fmt.Sprint("k", i%5), "v")}); e != api.OK {
			t.Fatalf("commit %d: error %d", i, e)
		}
		if i%10 == 0 {
			must(t, s.Compact())
		}
	}
}

func TestP6_7WhatIsNew(t *testing.T) {
	for seed := range int64(200) {
		s, _, m := grown(t, rand.New(rand.NewSource(seed)))
		for v, was := range m.past {
			over := maps.Clone(was)
			news := s.Since(v)
			for _, item := range news {
				over[item.Key] = item
			}
			if !maps.Equal(over, m.now()) {
				t.Fatalf("seed %d: Since(%d) does not lead to what there is", seed, v)
			}
			for _, item := range news {
				if was[item.Key] == item {
					t.Fatalf("seed %d: Since(%d) tells %q, which is not new", seed, v, item.Key)
				}
			}
		}
	}
}

func TestP6_8AtOnceOrNot(t *testing.T) {
	refused := 0
	for seed := range int64(300) {
		r := rand.New(rand.NewSource(seed))
		d := fresh(t, 200+r.Intn(3000))
		s, m := open(t, d), newModel()
		for i := range 15 {
			ops := someOps(r, i)
			switch r.Intn(6) {
			case 0:
				ops = append(ops, ops[r.Intn(len(ops))])
			case 1:
				ops = append(ops, set("", "v"))
			case 2:
				ops = append(ops, api.Op{Key: "z", Gone: true, Value: "v"})
			}
			if _, e := s.Commit(ops); e == api.OK {
				m.commit(ops)
			} else {
				refused++
			}
			what := fmt.Sprint("seed ", seed, ", step ", i)
			m.check(t, what, s)
			twin := open(t, d.Clone())
			if twin.Version() != m.version() || !slices.Equal(twin.Since(0), s.Since(0)) {
				t.Fatalf("%s: opened again it is another one", what)
			}
		}
	}
	if refused < 100 {
		t.Errorf("only %d were refused", refused)
	}
}

func TestP6_9Pieces(t *testing.T) {
	for seed := range int64(300) {
		r := rand.New(rand.NewSource(seed))
		s, _, _ := grown(t, r)
		cuts := []string{""}
		for range r.Intn(5) {
			cuts = append(cuts, string("abcdefg"[r.Intn(7)])+strings.Repeat("x", r.Intn(2)))
		}
		slices.Sort(cuts)
		var joined []api.Item
		for i, from := range cuts {
			to := ""
			if i+1 < len(cuts) {
				to = cuts[i+1]
			}
			joined = append(joined, s.Scan(from, to)...)
		}
		if !slices.Equal(joined, s.Scan("", "")) {
			t.Fatalf("seed %d: pieces %q are %q, all is %q", seed, cuts, keys(joined), keys(s.Scan("", "")))
		}
	}
}
