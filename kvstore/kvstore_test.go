package kvstore_test

import (
	"fmt"
	"math"
	"slices"
	"strings"
	"sync"
	"testing"

	"blotter/api"
	"blotter/disk"
	"blotter/kvstore"
	"blotter/seglog"
	"blotter/wire"
)

const maxVersion = 1 << 40

func fresh(t *testing.T, room int) *disk.Disk {
	t.Helper()
	d, e := disk.New(room)
	if e != api.OK {
		t.Fatalf("New(%d): error %d", room, e)
	}
	return d
}

func open(t *testing.T, d *disk.Disk) *kvstore.Store {
	t.Helper()
	s, e := kvstore.Open(d)
	if e != api.OK || s == nil {
		t.Fatalf("Open: error %d", e)
	}
	return s
}

// must asks that calls answered OK.
func must(t *testing.T, all ...api.Errno) {
	t.Helper()
	for i, e := range all {
		if e != api.OK {
			t.Fatalf("call %d: error %d", i, e)
		}
	}
}

// commit writes what must be taken.
func commit(t *testing.T, s *kvstore.Store, ops ...api.Op) int {
	t.Helper()
	v, e := s.Commit(ops)
	if e != api.OK {
		t.Fatalf("Commit of %d ops: error %d", len(ops), e)
	}
	return v
}

func set(key, value string) api.Op { return api.Op{Key: key, Value: value} }

func gone(key string) api.Op { return api.Op{Key: key, Gone: true} }

// told is all that a store tells of versions and items.
func told(s *kvstore.Store) string {
	return fmt.Sprintf("%d %d %+v %+v", s.Version(), s.Synced(), s.Scan("", ""), s.Since(0))
}

func segment(first int) string { return fmt.Sprintf("seg.%019d", first) }

// records is all records on a disk.
func records(t *testing.T, d *disk.Disk) []string {
	t.Helper()
	l, e := seglog.Open(d.Clone())
	must(t, e)
	var out []string
	for _, rec := range l.Read(0) {
		out = append(out, string(rec))
	}
	return out
}

// saying is a disk with these records, the first of which has the number first.
func saying(t *testing.T, first int, recs ...string) *disk.Disk {
	t.Helper()
	d := fresh(t, api.MaxRoom)
	if first != 1 {
		must(t, d.Write(segment(first), nil))
	}
	l, e := seglog.Open(d)
	must(t, e)
	for _, rec := range recs {
		if _, e := l.Append([]byte(rec)); e != api.OK {
			t.Fatalf("a record of %d bytes: error %d", len(rec), e)
		}
	}
	return d
}

// The records' forms, by the document's table.

func number(n int) string { return string(wire.Number(nil, n)) }

func text(s string) string { return string(wire.Text(nil, s)) }

func held(key, value string) string { return text(key) + "\x00" + text(value) }

func lost(key string) string { return text(key) + "\x01" }

func commitRec(version int, keys ...string) string {
	return "\x01" + number(version) + number(len(keys)) + strings.Join(keys, "")
}

func itemRec(at int, key string) string { return "\x02" + number(at) + key }

func endRec(version int) string { return "\x03" + number(version) }

const beginning = "\x04"

func TestP6_1OpenOfUnmadeDisk(t *testing.T) {
	for _, d := range []*disk.Disk{nil, {}, new(disk.Disk)} {
		if s, e := kvstore.Open(d); s != nil || e != api.ErrNil {
			t.Errorf("%v, error %d", s, e)
		}
	}
}

func TestP6_1OpenOfEmptyDisk(t *testing.T) {
	s := open(t, fresh(t, 0))
	if s.Version() != 0 || s.Synced() != 0 || s.Bytes() != 0 || len(s.Scan("", "")) != 0 || len(s.Since(-1)) != 0 {
		t.Error(told(s))
	}
	if item, ok := s.Get("a"); ok || item != (api.Item{}) {
		t.Error(item, ok)
	}
}

// longest is a key and a value as long as they may be.
var longest = struct{ key, value string }{strings.Repeat("k", api.MaxKey), strings.Repeat("v", api.MaxValue)}

// manyKeys is as many keys as told, each in its form.
func manyKeys(n int) []string {
	out := make([]string, n)
	for i := range out {
		out[i] = lost(fmt.Sprint(i))
	}
	return out
}

// good has records that say a store: its version and what Since(0) tells of it.
var good = []struct {
	what    string
	first   int
	recs    []string
	version int
	items   []api.Item
}{
	{"nothing", 1, nil, 0, nil},
	{"a commit", 1, []string{commitRec(1, held("a", "1"))}, 1, []api.Item{{Key: "a", Value: "1", At: 1}}},
	{"an empty value", 1, []string{commitRec(1, held("a", ""))}, 1, []api.Item{{Key: "a", At: 1}}},
	{"a key gone that never was", 1, []string{commitRec(1, lost("a"))}, 1, []api.Item{{Key: "a", Gone: true, At: 1}}},
	{"commits, keys in any order", 1, []string{commitRec(1, held("b", "1"), held("a", "2")), commitRec(2, lost("b"), held("c", "3"))}, 2,
		[]api.Item{{Key: "a", Value: "2", At: 1}, {Key: "b", Gone: true, At: 2}, {Key: "c", Value: "3", At: 2}}},
	{"the longest key and value", 1, []string{commitRec(1, held(longest.key, longest.value))}, 1, []api.Item{{Key: longest.key, Value: longest.value, At: 1}}},
	{"a snapshot of nothing", 1, []string{beginning, endRec(0)}, 0, nil},
	{"a snapshot of nothing at a version", 1, []string{beginning, endRec(7)}, 7, nil},
	{"a snapshot", 1, []string{beginning, itemRec(2, lost("a")), itemRec(1, held("b", "x")), endRec(2)}, 2, []api.Item{{Key: "a", Gone: true, At: 2}, {Key: "b", Value: "x", At: 1}}},
	{"a snapshot far on", 300, []string{beginning, itemRec(2, held("a", "")), endRec(5)}, 5, []api.Item{{Key: "a", At: 2}}},
	{"a snapshot and a commit", 9, []string{beginning, itemRec(2, held("a", "x")), itemRec(3, held("b", "x")), endRec(3), commitRec(4, held("b", "y"))}, 4, []api.Item{{Key: "a", Value: "x", At: 2}, {Key: "b", Value: "y", At: 4}}},
	{"a snapshot stands for what is ahead", 1, []string{commitRec(1, held("z", "1")), beginning, itemRec(1, held("a", "1")), endRec(9), commitRec(10, lost("a"))}, 10, []api.Item{{Key: "a", Gone: true, At: 10}}},
	{"two snapshots", 1, []string{beginning, itemRec(1, held("a", "1")), endRec(9), beginning, endRec(4), commitRec(5, held("b", ""))}, 5, []api.Item{{Key: "b", At: 5}}},
	{"ahead of a snapshot stands what can't be", 5, []string{"", "\x09", beginning + "x", itemRec(0, "x"), endRec(1) + "x", commitRec(7), "\x02", beginning, itemRec(1, lost("a")), endRec(1)}, 1, []api.Item{{Key: "a", Gone: true, At: 1}}},
	{"a beginning alone", 1, []string{beginning}, 0, nil},
	{"a beginning behind a commit", 1, []string{commitRec(1, held("a", "1")), beginning}, 1, []api.Item{{Key: "a", Value: "1", At: 1}}},
	{"a beginning and items without an end", 1, []string{commitRec(1, held("a", "1")), beginning, itemRec(5, held("b", "x")), itemRec(1, lost("c"))}, 1, []api.Item{{Key: "a", Value: "1", At: 1}}},
	{"items without an end, a commit behind", 1, []string{commitRec(1, held("a", "1")), beginning, itemRec(1, held("b", "x")), commitRec(2, held("c", ""))}, 2, []api.Item{{Key: "a", Value: "1", At: 1}, {Key: "c", At: 2}}},
	{"items without an end ahead of all", 1, []string{beginning, itemRec(1, held("b", "x")), commitRec(1, held("c", ""))}, 1, []api.Item{{Key: "c", At: 1}}},
	{"beginnings one behind the other", 1, []string{beginning, beginning, beginning, itemRec(3, lost("b")), beginning, itemRec(2, lost("a")), endRec(3)}, 3, []api.Item{{Key: "a", Gone: true, At: 2}}},
	{"a snapshot, and one without an end", 3, []string{beginning, itemRec(1, held("a", "1")), endRec(1), beginning, itemRec(1, held("a", "2"))}, 1, []api.Item{{Key: "a", Value: "1", At: 1}}},
	{"the greatest version", 2, []string{beginning, itemRec(maxVersion, lost("a")), endRec(maxVersion)}, maxVersion, []api.Item{{Key: "a", Gone: true, At: maxVersion}}},
	{"a commit of the greatest version", 2, []string{beginning, endRec(maxVersion - 1), commitRec(maxVersion, lost("a"))}, maxVersion, []api.Item{{Key: "a", Gone: true, At: maxVersion}}},
	{"an item of the greatest version, without an end", 1, []string{beginning, itemRec(maxVersion, lost("a"))}, 0, nil},
	{"keys by bytes", 1, []string{beginning, itemRec(1, held("\x00", "")), itemRec(1, held("a", "")), itemRec(1, held("a\x00", "")), itemRec(1, held("b", "")), itemRec(1, held("\xff", "")), endRec(1)}, 1,
		[]api.Item{{Key: "\x00", At: 1}, {Key: "a", At: 1}, {Key: "a\x00", At: 1}, {Key: "b", At: 1}, {Key: "\xff", At: 1}}},
}

func TestP6_1Records(t *testing.T) {
	for _, x := range good {
		t.Run(x.what, func(t *testing.T) {
			d := saying(t, x.first, x.recs...)
			s := open(t, d)
			if s.Version() != x.version || s.Synced() != x.version || !slices.Equal(s.Since(0), x.items) || d.Pending() != 0 {
				t.Errorf("%s, want %d %+v", told(s), x.version, x.items)
			}
		})
	}
	d := saying(t, 1, commitRec(1, manyKeys(api.MaxOps)...))
	if s := open(t, d); s.Version() != 1 || len(s.Since(0)) != api.MaxOps {
		t.Error("a commit of MaxOps keys")
	}
}

// bad has records of which there is no store; first is the first one's number.
var bad = []struct {
	what  string
	first int
	recs  []string
}{
	{"an empty record", 1, []string{""}},
	{"kind 0", 1, []string{"\x00"}},
	{"kind 5", 1, []string{"\x05"}},
	{"kind 255", 1, []string{"\xff"}},
	{"a beginning with more behind", 1, []string{beginning + "\x00"}},
	{"a beginning with more behind, and an end", 1, []string{beginning + "\x00", endRec(0)}},

	{"commits from another number on", 2, []string{commitRec(1, held("a", ""))}},
	{"commits from another number and version on", 2, []string{commitRec(2, held("a", ""))}},
	{"no records, the next one is not 1", 2, nil},
	{"a beginning from another number on", 2, []string{beginning}},
	{"a commit of version 0", 1, []string{commitRec(0, held("a", ""))}},
	{"a commit of version 2 first", 1, []string{commitRec(2, held("a", ""))}},
	{"a version twice", 1, []string{commitRec(1, held("a", "")), commitRec(1, held("b", ""))}},
	{"a version left out", 1, []string{commitRec(1, held("a", "")), commitRec(3, held("b", ""))}},
	{"a version left out behind a snapshot", 1, []string{beginning, endRec(4), commitRec(6, held("b", ""))}},
	{"a snapshot's version again", 1, []string{beginning, endRec(4), commitRec(4, held("b", ""))}},
	{"version 1 behind a snapshot", 1, []string{beginning, endRec(4), commitRec(1, held("b", ""))}},
	{"a commit above the greatest version", 1, []string{beginning, endRec(maxVersion), commitRec(maxVersion+1, held("b", ""))}},

	{"a commit without its version", 1, []string{"\x01"}},
	{"a commit without a number of keys", 1, []string{"\x01\x01"}},
	{"a commit of no keys", 1, []string{commitRec(1)}},
	{"a commit of no keys with one", 1, []string{"\x01\x01\x00" + lost("a")}},
	{"a commit of more than MaxOps keys", 1, []string{commitRec(1, manyKeys(api.MaxOps+1)...)}},
	{"a commit that says more than MaxOps keys", 1, []string{"\x01\x01" + number(math.MaxInt) + lost("a")}},
	{"a commit with a key too few", 1, []string{"\x01\x01\x02" + held("a", "1")}},
	{"a commit with a key too many", 1, []string{"\x01\x01\x01" + held("a", "1") + held("b", "1")}},
	{"a commit with a byte too many", 1, []string{commitRec(1, held("a", "1")) + "\x00"}},
	{"a commit with a key twice", 1, []string{commitRec(1, held("a", "1"), held("b", "1"), held("a", "1"))}},
	{"a commit with a key twice, gone", 1, []string{commitRec(1, lost("a"), lost("a"))}},
	{"a version in a longer form", 1, []string{"\x01\xf8\x01\x01" + lost("a")}},
	{"a number of keys in a longer form", 1, []string{"\x01\x01\xf8\x01" + lost("a")}},
	{"an empty key", 1, []string{commitRec(1, held("", "1"))}},
	{"a key that is too long", 1, []string{commitRec(1, held(longest.key+"k", "1"))}},
	{"a value that is too long", 1, []string{commitRec(1, held("a", longest.value+"v"))}},
	{"a key that ends early", 1, []string{"\x01\x01\x01\x05a"}},
	{"a key and nothing behind", 1, []string{commitRec(1, text("a"))}},
	{"a key and a byte 2", 1, []string{commitRec(1, text("a")+"\x02")}},
	{"a key, a byte 2 and a value", 1, []string{commitRec(1, text("a")+"\x02"+text("v"))}},
	{"a key that is gone and has a value", 1, []string{commitRec(1, lost("a")+text("v"))}},
	{"a key with a byte 0 and no value", 1, []string{commitRec(1, text("a")+"\x00")}},
	{"a value that ends early", 1, []string{commitRec(1, text("a")+"\x00\x05v")}},
	{"a good commit behind a bad one", 1, []string{commitRec(1), commitRec(1, lost("a"))}},

	{"an item first", 1, []string{itemRec(1, lost("a"))}},
	{"an item behind a commit", 1, []string{commitRec(1, lost("a")), itemRec(1, lost("a"))}},
	{"an item behind an end", 1, []string{beginning, endRec(1), itemRec(1, lost("a"))}},
	{"an item behind a commit behind a beginning", 1, []string{beginning, commitRec(1, lost("a")), itemRec(1, lost("a"))}},
	{"an item of version 0", 1, []string{beginning, itemRec(0, lost("a")), endRec(1)}},
	{"an item of version 0, without an end", 1, []string{beginning, itemRec(0, lost("a"))}},
	{"an item above its end", 1, []string{beginning, itemRec(3, lost("a")), itemRec(2, lost("b")), endRec(2)}},
	{"an item above its end, a good snapshot ahead", 1, []string{beginning, endRec(4), beginning, itemRec(3, lost("a")), endRec(2)}},
	{"an item above the greatest version, without an end", 1, []string{beginning, itemRec(maxVersion+1, lost("a"))}},
	{"a key twice in a snapshot", 1, []string{beginning, itemRec(1, lost("a")), itemRec(1, lost("a")), endRec(2)}},
	{"falling keys in a snapshot", 1, []string{beginning, itemRec(1, lost("b")), itemRec(1, lost("a")), endRec(2)}},
	{"falling keys in a snapshot without an end", 1, []string{beginning, itemRec(1, lost("b")), itemRec(1, lost("a"))}},
	{"an item with more behind", 1, []string{beginning, itemRec(1, lost("a")) + "\x00", endRec(2)}},
	{"an item with more behind, without an end", 1, []string{beginning, itemRec(1, lost("a")) + "\x00"}},
	{"an item with more behind, without an end, a commit behind", 1, []string{beginning, itemRec(1, lost("a")) + "\x00", commitRec(1, lost("a"))}},
	{"an item of a kind alone", 1, []string{beginning, "\x02", endRec(2)}},
	{"an item without a key", 1, []string{beginning, itemRec(1, ""), endRec(2)}},
	{"an item with an empty key", 1, []string{beginning, itemRec(1, lost("")), endRec(2)}},
	{"an item with a key that is too long", 1, []string{beginning, itemRec(1, lost(longest.key+"k")), endRec(2)}},
	{"an item with a value that is too long", 1, []string{beginning, itemRec(1, held("a", longest.value+"v")), endRec(2)}},
	{"an item with a byte 2", 1, []string{beginning, itemRec(1, text("a")+"\x02"), endRec(2)}},
	{"an item with a byte 2 and a value", 1, []string{beginning, itemRec(1, text("a")+"\x02"+text("v")), endRec(2)}},

	{"an end first", 1, []string{endRec(0)}},
	{"an end behind a commit", 1, []string{commitRec(1, lost("a")), endRec(1)}},
	{"an end behind a commit behind a beginning", 1, []string{beginning, commitRec(1, lost("a")), endRec(1)}},
	{"an end twice", 1, []string{beginning, endRec(1), endRec(1)}},
	{"an end without a version", 1, []string{beginning, "\x03"}},
	{"an end with more behind", 1, []string{beginning, endRec(1) + "\x00"}},
	{"an end above the greatest version", 1, []string{beginning, endRec(maxVersion + 1)}},
	{"an end of the greatest number", 1, []string{beginning, endRec(math.MaxInt)}},
	{"an end in a longer form", 1, []string{beginning, "\x03\xf8\x01"}},
	{"a bad end, a good snapshot ahead", 1, []string{beginning, endRec(1), beginning, "\x03"}},
	{"a bad record behind a snapshot", 1, []string{beginning, endRec(1), ""}},
}

func TestP6_1BadRecords(t *testing.T) {
	for _, x := range bad {
		t.Run(x.what, func(t *testing.T) {
			d := saying(t, x.first, x.recs...)
			if s, e := kvstore.Open(d); s != nil || e != api.ErrStore {
				t.Errorf("%v, error %d", s, e)
			}
			// A snapshot behind them stands for them all.
			l, _ := seglog.Open(d)
			for _, rec := range []string{beginning, itemRec(2, lost("a")), endRec(6)} {
				if _, e := l.Append([]byte(rec)); e != api.OK {
					t.Fatal(e)
				}
			}
			if s := open(t, d); s.Version() != 6 || len(s.Since(0)) != 1 {
				t.Error("behind a snapshot:", told(s))
			}
		})
	}
}

func TestP6_1VersionAndSynced(t *testing.T) {
	d := fresh(t, 1000)
	s := open(t, d)
	for i := 1; i <= 3; i++ {
		if v := commit(t, s, set("a", fmt.Sprint(i))); v != i || s.Version() != i || s.Synced() != 0 {
			t.Errorf("commit %d: %d, %s", i, v, told(s))
		}
	}
	must(t, s.Sync())
	if s.Version() != 3 || s.Synced() != 3 {
		t.Error(told(s))
	}
	commit(t, s, set("a", "4"))
	if s.Version() != 4 || s.Synced() != 3 {
		t.Error(told(s))
	}
	must(t, s.Compact())
	if s.Version() != 4 || s.Synced() != 4 {
		t.Error(told(s))
	}
	commit(t, s, set("a", "5"))
	if again := open(t, d); again.Version() != 5 || again.Synced() != 5 || s.Synced() != 4 {
		t.Error(told(again))
	}
}

func TestP6_2Get(t *testing.T) {
	s := open(t, fresh(t, 10000))
	commit(t, s, set("a", "1"), set("b", "2"), set("e", ""))
	commit(t, s, gone("a"), set("b", "3"))
	commit(t, s, set("c", "4"), gone("never"))
	for _, x := range []struct {
		key  string
		want api.Item
		ok   bool
	}{
		{"a", api.Item{}, false},
		{"b", api.Item{Key: "b", Value: "3", At: 2}, true},
		{"c", api.Item{Key: "c", Value: "4", At: 3}, true},
		{"e", api.Item{Key: "e", At: 1}, true},
		{"never", api.Item{}, false},
		{"d", api.Item{}, false},
		{"", api.Item{}, false},
		{"bb", api.Item{}, false},
		{strings.Repeat("b", 1000), api.Item{}, false},
	} {
		if got, ok := s.Get(x.key); got != x.want || ok != x.ok {
			t.Errorf("%q: %v, %v", x.key, got, ok)
		}
	}
	commit(t, s, set("a", "back"))
	if got, ok := s.Get("a"); !ok || got != (api.Item{Key: "a", Value: "back", At: 4}) {
		t.Error(got, ok)
	}
}

// keys is the keys of items, one behind the other.
func keys(items []api.Item) string {
	out := ""
	for _, item := range items {
		out += item.Key + " "
	}
	return out
}

func TestP6_2Scan(t *testing.T) {
	s := open(t, fresh(t, 10000))
	commit(t, s, set("b", "1"), set("ab", "2"), set("a", "3"), set("c", "4"), set("B", "5"), set("a\x00", "6"), set("\xff", "7"), set("é", "8"))
	commit(t, s, gone("c"), set("b", "9"))
	for _, x := range []struct{ from, to, want string }{
		{"", "", "B a a\x00 ab b é \xff "},
		{"a", "", "a a\x00 ab b é \xff "},
		{"a", "b", "a a\x00 ab "},
		{"", "b", "B a a\x00 ab "},
		{"a\x00", "b", "a\x00 ab "},
		{"a", "a\x00", "a "},
		{"b", "c", "b "},
		{"b", "d", "b "},
		{"b", "b", ""},
		{"c", "d", ""},
		{"c", "b", ""},
		{"z", "a", ""},
		{"\xff", "", "\xff "},
		{"\xff\x00", "", ""},
		{"é", "\xff", "é "},
	} {
		if got := keys(s.Scan(x.from, x.to)); got != x.want {
			t.Errorf("%q to %q: %q, want %q", x.from, x.to, got, x.want)
		}
	}
	if got := s.Scan("b", "c"); got[0] != (api.Item{Key: "b", Value: "9", At: 2}) {
		t.Error(got)
	}
}

func TestP6_2Since(t *testing.T) {
	s := open(t, fresh(t, 10000))
	commit(t, s, set("c", "1"), set("a", "1"), set("x", "1"))
	commit(t, s, gone("a"), set("b", "2"))
	commit(t, s, set("c", "3"))
	x, c := api.Item{Key: "x", Value: "1", At: 1}, api.Item{Key: "c", Value: "3", At: 3}
	a, b := api.Item{Key: "a", Gone: true, At: 2}, api.Item{Key: "b", Value: "2", At: 2}
	for _, y := range []struct {
		version int
		want    []api.Item
	}{
		{math.MinInt, []api.Item{a, b, c, x}},
		{-1, []api.Item{a, b, c, x}},
		{0, []api.Item{a, b, c, x}},
		{1, []api.Item{a, b, c}},
		{2, []api.Item{c}},
		{3, nil},
		{4, nil},
		{math.MaxInt, nil},
	} {
		if got := s.Since(y.version); !slices.Equal(got, y.want) {
			t.Errorf("Since(%d): %v, want %v", y.version, got, y.want)
		}
	}
}

// manyOps is so many ops of different keys.
func manyOps(n int) []api.Op {
	ops := make([]api.Op, n)
	for i := range ops {
		ops[i] = set(fmt.Sprint("k", i), "v")
	}
	return ops
}

func TestP6_3CommitErrors(t *testing.T) {
	long := strings.Repeat("x", api.MaxValue+1)
	longKey := strings.Repeat("k", api.MaxKey+1)
	big := manyOps(17)
	for i := range big {
		big[i].Value = long[1:]
	}
	for _, x := range []struct {
		what string
		ops  []api.Op
		want api.Errno
	}{
		{"nil", nil, api.ErrArg},
		{"empty", []api.Op{}, api.ErrArg},
		{"more than MaxOps", manyOps(api.MaxOps + 1), api.ErrArg},
		{"more than MaxOps, a key that may not be", append(manyOps(api.MaxOps), set("", "")), api.ErrArg},
		{"an empty key", []api.Op{set("", "v")}, api.ErrName},
		{"a long key", []api.Op{set(longKey, "v")}, api.ErrName},
		{"the key ahead of the value", []api.Op{{Key: "", Gone: true, Value: long}}, api.ErrName},
		{"gone with a value", []api.Op{{Key: "a", Gone: true, Value: "v"}}, api.ErrArg},
		{"gone with a value ahead of a long one", []api.Op{{Key: "a", Gone: true, Value: long}}, api.ErrArg},
		{"a long value", []api.Op{set("a", long)}, api.ErrLong},
		{"a key twice", []api.Op{set("a", "1"), set("a", "2")}, api.ErrOps},
		{"a key twice, gone", []api.Op{set("a", "1"), gone("a")}, api.ErrOps},
		{"a key twice, others between", []api.Op{gone("a"), set("b", ""), set("c", ""), gone("a")}, api.ErrOps},
		{"a long value ahead of a key twice", []api.Op{set("a", "1"), set("a", long)}, api.ErrLong},
		{"gone with a value ahead of a key twice", []api.Op{set("a", "1"), {Key: "a", Gone: true, Value: "v"}}, api.ErrArg},
		{"the first op's ahead of the second one's", []api.Op{set("a", long), set("", "")}, api.ErrLong},
		{"a key twice ahead of the third one's", []api.Op{set("a", ""), set("a", ""), set("", "")}, api.ErrOps},
		{"the last op's", append(manyOps(api.MaxOps-1), set("", "")), api.ErrName},
		{"a record that is too long", big, api.ErrLong},
	} {
		d := fresh(t, api.MaxRoom)
		s := open(t, d)
		commit(t, s, set("a", "was"), set("k0", "was"))
		was, had := told(s), records(t, d)
		if v, e := s.Commit(x.ops); v != 0 || e != x.want || told(s) != was || !slices.Equal(records(t, d), had) {
			t.Errorf("%s: %d, error %d, want %d: %s", x.what, v, e, x.want, told(s))
		}
		if v := commit(t, s, set("b", "")); v != 2 {
			t.Errorf("%s: the next version is %d", x.what, v)
		}
	}
}

func TestP6_3CommitLimits(t *testing.T) {
	d := fresh(t, api.MaxRoom)
	s := open(t, d)
	if v := commit(t, s, manyOps(api.MaxOps)...); v != 1 || len(s.Since(0)) != api.MaxOps {
		t.Error(v)
	}
	if v := commit(t, s, set(longest.key, longest.value)); v != 2 {
		t.Error(v)
	}
	if got, ok := open(t, d).Get(longest.key); !ok || got != (api.Item{Key: longest.key, Value: longest.value, At: 2}) {
		t.Error("the longest key and value do not come back")
	}
	// The greatest record: a kind, a version and a number of keys of a byte each, behind the log's number of a byte.
	ops := manyOps(16)
	size := 4
	for i := range ops {
		ops[i].Value = longest.value
		size += len(held(ops[i].Key, ops[i].Value))
	}
	ops = ops[:15]
	size -= len(held("k15", longest.value))
	last := set("last", "")
	last.Value = strings.Repeat("x", api.MaxFrame-size-len(held("last", ""))-2)
	if len(last.Value) < 248 || len(last.Value) > api.MaxValue {
		t.Fatal(len(last.Value))
	}
	longer := last
	longer.Value += "x"
	if v, e := s.Commit(append(slices.Clone(ops), longer)); v != 0 || e != api.ErrLong {
		t.Error("a byte more than a record may have:", v, e)
	}
	if v, e := s.Commit(append(slices.Clone(ops), last)); v != 3 || e != api.OK {
		t.Error("just as much as a record may have:", v, e)
	}
}

func TestP6_3CommitRecord(t *testing.T) {
	d := fresh(t, 100000)
	s := open(t, d)
	commit(t, s, set("b", "2"), gone("a"), set("e", ""))
	commit(t, s, set(longest.key, strings.Repeat("v", 300)))
	want := []string{
		"\x01\x01\x03\x01b\x00\x012\x01a\x01\x01e\x00\x00",
		"\x01\x02\x01\x80" + longest.key + "\x00\xf9\x01\x2c" + strings.Repeat("v", 300),
	}
	if got := records(t, d); !slices.Equal(got, want) {
		t.Errorf("%q", got)
	}
}

func TestP6_3GreatestVersion(t *testing.T) {
	d := saying(t, 1, beginning, endRec(maxVersion-1))
	s := open(t, d)
	if v := commit(t, s, set("a", "1")); v != maxVersion || s.Version() != maxVersion {
		t.Fatal(v)
	}
	big := manyOps(17)
	for i := range big {
		big[i].Value = longest.value
	}
	was := told(s)
	for _, x := range []struct {
		ops  []api.Op
		want api.Errno
	}{
		{[]api.Op{set("b", "")}, api.ErrRange},
		{big, api.ErrRange},                             // ahead of the log's
		{[]api.Op{set("b", ""), gone("b")}, api.ErrOps}, // behind the ops'
		{nil, api.ErrArg},
	} {
		if v, e := s.Commit(x.ops); v != 0 || e != x.want || told(s) != was {
			t.Errorf("%d, error %d, want %d", v, e, x.want)
		}
	}
	must(t, s.Compact())
	if again := open(t, d); again.Version() != maxVersion || !slices.Equal(again.Since(0), s.Since(0)) {
		t.Error(told(again))
	}
}

func TestP6_3LogIsAtItsEnd(t *testing.T) {
	d := saying(t, math.MaxInt-3, beginning, endRec(5))
	s := open(t, d)
	if v := commit(t, s, set("a", "1")); v != 6 {
		t.Fatal(v)
	}
	was := told(s)
	if v, e := s.Commit([]api.Op{set("b", "")}); v != 0 || e != api.ErrRange || told(s) != was {
		t.Errorf("Commit: %d, error %d", v, e)
	}
	if e := s.Compact(); e != api.ErrRange || told(s) != was {
		t.Errorf("Compact: error %d", e)
	}
}

func TestP6_3Full(t *testing.T) {
	d := fresh(t, 40)
	s := open(t, d)
	commit(t, s, set("a", "1"))
	was := told(s)
	if v, e := s.Commit([]api.Op{set("b", strings.Repeat("x", 30))}); v != 0 || e != api.ErrFull || told(s) != was {
		t.Errorf("%d, error %d: %s", v, e, told(s))
	}
	if v := commit(t, s, set("b", "2")); v != 2 {
		t.Error(v)
	}
}

func TestP6_4Sync(t *testing.T) {
	d := fresh(t, 10000)
	s := open(t, d)
	must(t, s.Sync())
	commit(t, s, set("a", "1"))
	must(t, s.Sync())
	if d.Pending() != 0 {
		t.Error("something is pending behind Sync")
	}
	commit(t, s, set("a", "2"))
	must(t, d.Drop(segment(1)))
	if e := s.Sync(); e != api.ErrFile || s.Synced() != 1 || s.Version() != 2 {
		t.Errorf("error %d: %s", e, told(s))
	}
}

func TestP6_4CompactRecords(t *testing.T) {
	d := fresh(t, 100000)
	s := open(t, d)
	commit(t, s, set("c", "1"), set("a", "1"))
	commit(t, s, set("b", ""), gone("a"))
	must(t, s.Compact())
	snapshot := []string{"\x04", "\x02\x02\x01a\x01", "\x02\x02\x01b\x00\x00", "\x02\x01\x01c\x00\x011", "\x03\x02"}
	got := records(t, d)
	if len(got) != 7 || !slices.Equal(got[2:], snapshot) || d.Pending() != 0 {
		t.Errorf("%q", got)
	}
	must(t, s.Compact()) // the same again, behind it: no segment is full
	if got := records(t, d); len(got) != 12 || !slices.Equal(got[7:], snapshot) {
		t.Errorf("%q", got)
	}

	d = fresh(t, 1000)
	s = open(t, d)
	must(t, s.Compact())
	if got := records(t, d); !slices.Equal(got, []string{"\x04", "\x03\x00"}) || s.Bytes() != 9+10 {
		t.Errorf("of nothing: %q, %d bytes", got, s.Bytes())
	}
}

// Segments that are ahead of the snapshot go for good; that in which it begins stays.
func TestP6_4CompactTrims(t *testing.T) {
	for _, x := range []struct {
		what string
		last api.Op // behind two commits that fill a segment each
		stay []string
	}{
		{"it begins behind a commit", set("b", "2"), []string{segment(3), segment(6)}},
		{"it begins a segment", set("b", longest.value), []string{segment(4), segment(6), segment(7)}},
	} {
		d := fresh(t, 100000)
		s := open(t, d)
		commit(t, s, set("a", longest.value))
		commit(t, s, set("a", longest.value[1:]), gone("c"))
		commit(t, s, x.last)
		if got := d.List(); len(got) != 3 {
			t.Fatalf("%s: files %q", x.what, got)
		}
		was := s.Since(0)
		must(t, s.Compact())
		if got := d.List(); !slices.Equal(got, x.stay) || d.Pending() != 0 {
			t.Errorf("%s: files %q, %d are pending", x.what, got, d.Pending())
		}
		must(t, d.Crash(nil, 0))
		again := open(t, d)
		if again.Version() != 3 || !slices.Equal(again.Since(0), was) {
			t.Errorf("%s: %s", x.what, told(again))
		}
		if s.Bytes() != d.Used() || again.Bytes() != d.Used() {
			t.Errorf("%s: %d and %d bytes, want %d", x.what, s.Bytes(), again.Bytes(), d.Used())
		}
	}
}

// At whatever place the disk is full, nothing is lost, and the store goes on.
func TestP6_4CompactFull(t *testing.T) {
	refused, done := 0, 0
	for room := 60; room < 260; room++ {
		d := fresh(t, room)
		s := open(t, d)
		commit(t, s, set("c", "1"), set("a", "1"), set("d", "1"))
		must(t, s.Sync())
		commit(t, s, gone("a"))
		was, had := told(s), len(records(t, d))
		e := s.Compact()
		if e == api.OK {
			done++
			continue
		}
		refused++
		rest := records(t, d)[had:]
		if e != api.ErrFull || told(s) != was || len(rest) > 5 {
			t.Fatalf("room %d: error %d, %s, %q", room, e, told(s), rest)
		}
		for i, rec := range rest {
			if kind := rec[0]; i == 0 && kind != 4 || i > 0 && kind != 2 {
				t.Fatalf("room %d: %q", room, rest)
			}
		}
		if v, e := s.Commit([]api.Op{gone("c")}); e == api.OK && v != 3 {
			t.Fatalf("room %d: version %d", room, v)
		}
		again := open(t, d)
		if again.Version() != s.Version() || !slices.Equal(again.Since(0), s.Since(0)) {
			t.Fatalf("room %d: %s, was %s", room, told(again), told(s))
		}
	}
	if refused < 20 || done < 20 {
		t.Errorf("%d refused, %d done", refused, done)
	}
}

func TestP6_4CompactErrors(t *testing.T) {
	d := fresh(t, 100000)
	s := open(t, d)
	for range 3 {
		commit(t, s, set("a", longest.value))
	}
	must(t, d.Drop(segment(1)))
	if e := s.Compact(); e != api.ErrFile || s.Synced() != 3 || s.Version() != 3 {
		t.Errorf("Trim's error: %d, %s", e, told(s))
	}
	if len(records(t, d)) != 5 { // two commits, the snapshot
		t.Errorf("%q", records(t, d))
	}

	d = fresh(t, 100000)
	s = open(t, d)
	for range 2 {
		commit(t, s, set("a", longest.value))
	}
	must(t, d.Drop(segment(2)))
	if e := s.Compact(); e != api.ErrFile || s.Synced() != 0 || len(d.List()) != 1 {
		t.Errorf("Append's error: %d, %s, %q", e, told(s), d.List())
	}
}

func TestP6_4Bytes(t *testing.T) {
	d := fresh(t, 100000)
	s := open(t, d)
	sum := 0
	for i := range 20 {
		op := set(fmt.Sprint(i), longest.value[:400])
		commit(t, s, op)
		sum += len(commitRec(i+1, held(op.Key, op.Value))) + 8
		if s.Bytes() != sum || open(t, d.Clone()).Bytes() != sum {
			t.Fatalf("%d bytes, want %d", s.Bytes(), sum)
		}
	}
}

func TestP6_4Unmade(t *testing.T) {
	for _, s := range []*kvstore.Store{nil, {}, new(kvstore.Store)} {
		for _, ops := range [][]api.Op{nil, {set("a", "1")}} {
			if v, e := s.Commit(ops); v != 0 || e != api.ErrNil {
				t.Error("Commit", v, e)
			}
		}
		if s.Sync() != api.ErrNil || s.Compact() != api.ErrNil {
			t.Error("Sync, Compact")
		}
		if item, ok := s.Get("a"); ok || item != (api.Item{}) {
			t.Error("Get", item, ok)
		}
		if s.Version() != 0 || s.Synced() != 0 || s.Bytes() != 0 || len(s.Scan("", "")) != 0 || len(s.Since(-1)) != 0 {
			t.Error(told(s))
		}
	}
}

func TestP6_3Memory(t *testing.T) {
	s := open(t, fresh(t, 1000))
	ops := append(make([]api.Op, 0, 4), set("a", "1"), set("b", "2"))
	spare := ops[:4]
	spare[2] = set("spare", "s")
	if _, e := s.Commit(ops); e != api.OK {
		t.Fatal(e)
	}
	if !slices.Equal(spare, []api.Op{set("a", "1"), set("b", "2"), set("spare", "s"), {}}) {
		t.Error("Commit changes what it is given")
	}
	ops[0] = set("x", "9")
	was := told(s)
	for _, list := range [][]api.Item{s.Scan("", ""), s.Since(0)} {
		clear(list[:cap(list)])
	}
	if _, ok := s.Get("a"); !ok || told(s) != was {
		t.Error("an answer shares memory with the store")
	}
}

// The mutex: calls at the same time do not come between one another.
func TestP6_3AtTheSameTime(t *testing.T) {
	const workers, each = 8, 50
	d := fresh(t, api.MaxRoom)
	s := open(t, d)
	var all sync.WaitGroup
	for w := range workers {
		all.Go(func() {
			for i := range each {
				s.Commit([]api.Op{set(fmt.Sprint(w, " ", i), "v"), set(fmt.Sprint(w), fmt.Sprint(i))})
				s.Get("0")
				s.Scan("", "")
				s.Since(s.Version() - 1)
				if s.Synced() > s.Version() || s.Bytes() < 1 {
					t.Error("numbers that can't be")
				}
				if i%16 == w {
					s.Sync()
					s.Compact()
				}
			}
		})
	}
	all.Wait()
	if s.Version() != workers*each || len(s.Scan("", "")) != workers*each+workers {
		t.Error(s.Version(), len(s.Scan("", "")))
	}
	if again := open(t, d); again.Version() != s.Version() || !slices.Equal(again.Since(0), s.Since(0)) {
		t.Error("opened again it is another store")
	}
}
