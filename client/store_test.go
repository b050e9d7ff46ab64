package client_test

import (
	"fmt"
	"math/rand"
	"slices"
	"strconv"
	"testing"

	"blotter/api"
	"blotter/client"
	"blotter/disk"
	"blotter/kvstore"
	"blotter/msg"
)

func has(key, value string) api.Op { return api.Op{Key: key, Value: value} }

func gone(key string) api.Op { return api.Op{Key: key, Gone: true} }

func stored(name, id, issue string) string {
	return `{"client":"` + name + `","id":` + id + `,"m":{"issue":"` + issue + `","kind":1,"name":"","text":"t"}}`
}

func base(v int) string { return fmt.Sprintf("b/%019d", v) }

func wait(id int) string { return fmt.Sprintf("q/%019d", id) }

// handmade is a store of c1 as the document lays it out: a base of three, and two that wait.
func handmade() []api.Op {
	return []api.Op{
		has(base(1), stored("c1", "1", "a")),
		has(base(2), stored("c2", "1", "a")),
		has(base(3), stored("c1", "2", "b")),
		has(wait(3), stored("c1", "3", "c")),
		has(wait(4), stored("c1", "4", "d")),
	}
}

// diskOf is a disk on which a store made these commits.
func diskOf(t *testing.T, commits ...[]api.Op) *disk.Disk {
	t.Helper()
	d := newDisk(t, 1<<20)
	store, _ := kvstore.Open(d)
	for _, ops := range commits {
		if _, e := store.Commit(ops); e != api.OK {
			t.Fatalf("%v: error %d", ops, e)
		}
	}
	return d
}

// compacted is the same store in another form.
func compacted(d *disk.Disk) *disk.Disk {
	d = d.Clone()
	store, _ := kvstore.Open(d)
	store.Compact()
	return d
}

func TestP15_1Handmade(t *testing.T) {
	want := told{
		base:    []api.Logged{logged("c1", 1, create("a")), logged("c2", 1, create("a")), logged("c1", 2, create("b"))},
		pending: []api.Logged{logged("c1", 3, create("c")), logged("c1", 4, create("d"))},
	}
	ops := handmade()
	back := slices.Clone(ops)
	slices.Reverse(back)
	for _, commits := range [][][]api.Op{
		{ops},
		{back},
		{ops[3:], ops[:3]},
		{ops[:1], ops[1:2], ops[2:3], ops[3:4], ops[4:]},
		{{has(wait(1), stored("c1", "1", "a"))}, {has(wait(2), "x"), has("other", "x")}, append(slices.Clone(ops), gone(wait(1)), gone(wait(2)), gone("other"))},
		{ops, {gone("x")}, ops[2:4], ops[:1]},
	} {
		d := diskOf(t, commits...)
		for _, d := range []*disk.Disk{d, compacted(d)} {
			wantSame(t, "handmade", open(t, d, "c1"), want)
		}
	}
	for n := range len(ops) {
		c := open(t, diskOf(t, append(slices.Clone(ops[:n]), gone("x"))), "c1")
		wantSame(t, "a beginning", c, told{base: want.base[:min(n, 3)], pending: want.pending[:max(0, n-3)]})
	}
	wantSame(t, "none that waits", open(t, diskOf(t, ops[:3]), "c2"), told{base: want.base})
	wantSame(t, "none that waits", open(t, diskOf(t, ops[:3]), "somebody"), told{base: want.base})
}

func TestP15_1WrongStores(t *testing.T) {
	more := func(op api.Op) func([]api.Op) []api.Op {
		return func(l []api.Op) []api.Op { return append(l, op) }
	}
	value := func(i int, s string) func([]api.Op) []api.Op {
		return func(l []api.Op) []api.Op { l[i].Value = s; return l }
	}
	key := func(i int, s string) func([]api.Op) []api.Op {
		return func(l []api.Op) []api.Op { l[i].Key = s; return l }
	}
	without := func(i int) func([]api.Op) []api.Op {
		return func(l []api.Op) []api.Op { return slices.Delete(l, i, i+1) }
	}
	for _, x := range []struct {
		what   string
		change func([]api.Op) []api.Op
	}{
		{"another key ahead", more(has("a", stored("c1", "5", "x")))},
		{"another key between", more(has("d/x", stored("c1", "5", "x")))},
		{"another key behind", more(has("x", ""))},
		{"an empty value", more(has(wait(5), ""))},
		{"an empty value of the base", more(has(base(4), ""))},
		{"no JSON", more(has(wait(5), "{"))},
		{"a number 0", more(has(base(0), stored("c2", "2", "x")))},
		{"a number too far", more(has(base(5), stored("c2", "2", "x")))},
		{"fewer digits", key(2, "b/000000000000000003")},
		{"more digits", key(2, "b/00000000000000000003")},
		{"fewer digits of one that waits", key(4, "q/000000000000000004")},
		{"more digits of one that waits", key(4, "q/00000000000000000004")},
		{"a sign", key(2, "b/+000000000000000003")},
		{"another head", key(2, "B/0000000000000000003")},
		{"another head of one that waits", key(4, "Q/0000000000000000004")},
		{"a first one less", without(0)},
		{"one of the base less", without(1)},
		{"one that waits less", without(3)},
		{"one of the client in the base less", without(2)},
		{"blanks", value(1, stored("c2", "1", "a")+" ")},
		{"blanks in one that waits", value(4, " "+stored("c1", "4", "d"))},
		{"members in another order", value(1, `{"id":1,"client":"c2","m":{"issue":"a","kind":1,"name":"","text":"t"}}`)},
		{"members of one that waits in another order", value(4, `{"id":4,"client":"c1","m":{"issue":"a","kind":1,"name":"","text":"t"}}`)},
		{"one that may not be told", value(1, stored("c2", "1", "b b"))},
		{"one that waits and may not be told", value(4, stored("c1", "4", ""))},
		{"an ID too far", value(1, stored("c2", "2", "a"))},
		{"an ID 0", value(1, stored("c2", "0", "a"))},
		{"an ID again", value(2, stored("c1", "1", "b"))},
		{"an ID that is another key's", value(4, stored("c1", "5", "d"))},
		{"an ID that is too far with its key", func(l []api.Op) []api.Op { l[4] = has(wait(5), stored("c1", "5", "d")); return l }},
		{"an ID that the base has", more(has(wait(2), stored("c1", "2", "b")))},
		{"an ID 1 that the base has", more(has(wait(1), stored("c1", "1", "a")))},
		{"somebody else's that waits", value(4, stored("c2", "4", "d"))},
		{"somebody else's next that waits", more(has(wait(2), stored("c2", "2", "d")))},
		{"one of the base under a key of one that waits", key(1, wait(1))},
		{"one that waits in the base, too", more(has(base(4), stored("c1", "3", "c")))},
		{"one of the base twice", more(has(base(4), stored("c2", "1", "a")))},
	} {
		d := diskOf(t, x.change(handmade()))
		for _, d := range []*disk.Disk{d, compacted(d)} {
			if c, e := client.Open(d, "c1"); c != nil || e != api.ErrQueue {
				t.Errorf("%s: error %d", x.what, e)
			}
		}
	}
	for _, name := range []string{"c2", "c3", "C1", "c"} {
		if c, e := client.Open(diskOf(t, handmade()), name); c != nil || e != api.ErrQueue {
			t.Errorf("%s: error %d", name, e)
		}
	}
}

func TestP15_1MostThatWait(t *testing.T) {
	for n := range 70 {
		ops := []api.Op{has(base(1), stored("c1", "1", "a"))}
		for id := 2; id < 2+n; id++ {
			ops = append(ops, has(wait(id), stored("c1", strconv.Itoa(id), "x")))
		}
		c, e := client.Open(diskOf(t, ops), "c1")
		if n > 32 && (c != nil || e != api.ErrQueue) || n <= 32 && (e != api.OK || len(c.Pending()) != n) {
			t.Errorf("%d wait: error %d", n, e)
		}
	}
}

// lies is what a store of a few items has, if it may be: looked up key by key.
func lies(items map[string]string, name string) (told, bool) {
	var x told
	used := 0
	last := map[string]int{}
	for ; ; used++ {
		l, ok := items[base(used+1)]
		if !ok {
			break
		}
		m, _ := msg.Get(l)
		if again, e := msg.Put(m); e != api.OK || again != l || m.ID != last[m.Client]+1 {
			return told{}, false
		}
		last[m.Client]++
		x.base = append(x.base, m)
	}
	for ; ; used++ {
		l, ok := items[wait(last[name]+1)]
		if !ok {
			break
		}
		m, _ := msg.Get(l)
		if again, e := msg.Put(m); e != api.OK || again != l || m.ID != last[name]+1 || m.Client != name {
			return told{}, false
		}
		last[name]++
		x.pending = append(x.pending, m)
	}
	return x, used == len(items)
}

// byChance is a right store of c1, of a few items, in which one of them, or two, may be changed.
func byChance(r *rand.Rand) map[string]string {
	items := map[string]string{}
	last := map[string]int{}
	n := r.Intn(4)
	for v := range n {
		name := []string{"c1", "c2"}[r.Intn(2)]
		last[name]++
		items[base(v+1)] = stored(name, strconv.Itoa(last[name]), "a")
	}
	for range r.Intn(3) {
		last["c1"]++
		items[wait(last["c1"])] = stored("c1", strconv.Itoa(last["c1"]), "a")
	}
	for range r.Intn(3) {
		key := []string{base(1 + r.Intn(4)), wait(1 + r.Intn(4))}[r.Intn(2)]
		if r.Intn(3) == 0 {
			delete(items, key)
			continue
		}
		items[key] = stored([]string{"c1", "c2"}[r.Intn(2)], strconv.Itoa(r.Intn(4)), "a")
	}
	return items
}

// Stores of a few keys and values, as chance has them, are held against a look at each key.
func TestP15_1AnyStore(t *testing.T) {
	r := rand.New(rand.NewSource(151))
	good, bad := 0, 0
	for range 10000 {
		items := byChance(r)
		d := newDisk(t, 1<<16)
		store, _ := kvstore.Open(d)
		for key, value := range items {
			store.Commit([]api.Op{has(key, value)})
		}
		want, ok := lies(items, "c1")
		c, e := client.Open(d, "c1")
		if !ok {
			if c != nil || e != api.ErrQueue {
				t.Fatalf("%v: error %d", items, e)
			}
			bad++
			continue
		}
		if e != api.OK {
			t.Fatalf("%v: error %d", items, e)
		}
		wantSame(t, "by chance", c, want)
		good++
	}
	if good < 1000 || bad < 1000 {
		t.Errorf("%d were good, %d were not", good, bad)
	}
}

// Whatever bytes a disk has, opening ends.
func FuzzP15_1Open(f *testing.F) {
	d := newDisk(f, 1<<20)
	c, _ := client.Open(d, "c1")
	c.Mutate(create("a"))
	c.Pulled(patchOf(0, logged("c1", 1, create("a"))))
	b, _ := d.Read(d.List()[0])
	f.Add(b)
	f.Fuzz(func(t *testing.T, b []byte) {
		d := newDisk(t, 1<<20)
		if d.Write("seg.0000000000000000001", b) != api.OK {
			t.Skip()
		}
		c, e := client.Open(d, "c1")
		if (c != nil) != (e == api.OK) {
			t.Fatalf("error %d", e)
		}
		if e == api.OK {
			wantSame(t, "opened", c, tells(c))
			c.Mutate(create("b"))
			wantSame(t, "opened again", open(t, d, "c1"), tells(c))
		}
	})
}
