package sequencer_test

import (
	"slices"
	"testing"

	"blotter/api"
	"blotter/disk"
	"blotter/kvstore"
	"blotter/seglog"
	"blotter/sequencer"
	"blotter/wire"
)

const openIssue = `{"owner":"","status":"open","title":"t"}`

func has(key, value string) api.Op { return api.Op{Key: key, Value: value} }

func gone(key string) api.Op { return api.Op{Key: key, Gone: true} }

func stored(client, id, issue string) string {
	return `{"client":"` + client + `","id":` + id + `,"m":{"issue":"` + issue + `","kind":1,"name":"","text":"t"}}`
}

// handmade is four commits as the document lays them out: the third mutation does nothing.
func handmade() [][]api.Op {
	return [][]api.Op{
		{has("m/0000000000001", stored("c1", "1", "a")), has("n/c1", "1"), has("d/i/a", openIssue)},
		{has("m/0000000000002", stored("c2", "1", "b")), has("n/c2", "1"), has("d/i/b", openIssue)},
		{has("m/0000000000003", stored("c1", "2", "a")), has("n/c1", "2")},
		{has("m/0000000000004", `{"client":"c1","id":3,"m":{"issue":"b","kind":10,"name":"","text":""}}`), has("n/c1", "3"), gone("d/i/b")},
	}
}

// diskOf is a disk on which a store made these commits.
func diskOf(t *testing.T, commits [][]api.Op) *disk.Disk {
	t.Helper()
	d := newDisk(t, 100000)
	store, _ := kvstore.Open(d)
	for _, ops := range commits {
		if _, e := store.Commit(ops); e != api.OK {
			t.Fatalf("%v: error %d", ops, e)
		}
	}
	return d
}

// compacted is the same store in another form.
func compacted(d *disk.Disk) *disk.Disk {
	d = d.Clone()
	store, _ := kvstore.Open(d)
	store.Compact()
	return d
}

func TestP14_1Handmade(t *testing.T) {
	commits := handmade()
	for n := range len(commits) + 1 {
		d := diskOf(t, commits[:n])
		for _, d := range []*disk.Disk{d, compacted(d)} {
			if s := open(t, d); s.Top() != n {
				t.Errorf("%d, want %d", s.Top(), n)
			}
		}
	}
	s := open(t, diskOf(t, commits))
	if s.Last("c1") != 3 || s.Last("c2") != 1 || !slices.Equal(s.State(), []api.Entry{{Key: "i/a", Value: openIssue}}) || s.Log(3, 1)[0] != (api.Logged{Client: "c1", ID: 3, M: api.Mutation{Kind: api.KDelete, Issue: "b"}}) {
		t.Errorf("%v", tells(s))
	}
	// Keys that are gone do not count, whatever they are, whenever they went.
	commits[0] = append(commits[0], gone("x"), has("d/x", "1"), has("m/0000000000009", "x"))
	commits[2] = append(commits[2], gone("d/x"), gone("m/0000000000009"), gone("n/c9"))
	if s := open(t, diskOf(t, commits)); s.Top() != 4 {
		t.Errorf("%v", tells(s))
	}
	if s := open(t, compacted(diskOf(t, commits))); s.Top() != 4 {
		t.Errorf("%v", tells(s))
	}
}

func TestP14_1WrongStores(t *testing.T) {
	for _, x := range []struct {
		what   string
		change func([][]api.Op) [][]api.Op
	}{
		{"a commit of a key that is gone", func(l [][]api.Op) [][]api.Op { return append(l, []api.Op{gone("x")}) }},
		{"a commit of that alone", func(l [][]api.Op) [][]api.Op { return [][]api.Op{{gone("x")}} }},
		{"a commit that writes the same again", func(l [][]api.Op) [][]api.Op { return append(l, l[3]) }},
		{"another key", func(l [][]api.Op) [][]api.Op { l[1] = append(l[1], has("x", "")); return l }},
		{"another key of the log", func(l [][]api.Op) [][]api.Op { l[1] = append(l[1], has("m/0000000000005", l[0][0].Value)); return l }},
		{"a number 0", func(l [][]api.Op) [][]api.Op { l[1] = append(l[1], has("m/0000000000000", l[0][0].Value)); return l }},
		{"a key of the log of fewer digits", func(l [][]api.Op) [][]api.Op { l[1] = append(l[1], has("m/2", l[1][0].Value)); return l }},
		{"fewer digits", func(l [][]api.Op) [][]api.Op { l[1][0].Key = "m/000000000002"; return l }},
		{"more digits", func(l [][]api.Op) [][]api.Op { l[1][0].Key = "m/00000000000002"; return l }},
		{"no mutation", func(l [][]api.Op) [][]api.Op { l[1] = l[1][1:]; return l }},
		{"a mutation that is gone", func(l [][]api.Op) [][]api.Op { l[3] = append(l[3], gone("m/0000000000002")); return l }},
		{"a mutation that comes later", func(l [][]api.Op) [][]api.Op {
			l[0][0].Key, l[1][0].Key = l[1][0].Key, l[0][0].Key
			return l
		}},
		{"a mutation that was written again", func(l [][]api.Op) [][]api.Op { l[2] = append(l[2], l[0][0]); return l }},
		{"two mutations in one commit", func(l [][]api.Op) [][]api.Op {
			return [][]api.Op{append(l[0], l[1]...), l[2], l[3]}
		}},
		{"two mutations in one commit, and one of nothing", func(l [][]api.Op) [][]api.Op {
			return [][]api.Op{append(l[0], l[1]...), {gone("x")}, l[2], l[3]}
		}},
		{"one of nothing, and two mutations in one commit", func(l [][]api.Op) [][]api.Op {
			return [][]api.Op{{gone("x")}, append(l[0], l[1]...), l[2], l[3]}
		}},
		{"blanks in a mutation", func(l [][]api.Op) [][]api.Op { l[1][0].Value += " "; return l }},
		{"members in another order", func(l [][]api.Op) [][]api.Op {
			l[1][0].Value = `{"id":1,"client":"c2","m":{"issue":"b","kind":1,"name":"","text":"t"}}`
			return l
		}},
		{"an empty mutation", func(l [][]api.Op) [][]api.Op { l[1][0].Value = ""; return l }},
		{"a mutation that may not be told", func(l [][]api.Op) [][]api.Op { l[1][0].Value = stored("c2", "1", "b b"); return l }},
		{"an ID too far", func(l [][]api.Op) [][]api.Op {
			l[1][0].Value, l[1][1].Value = stored("c2", "2", "b"), "2"
			return l
		}},
		{"an ID again", func(l [][]api.Op) [][]api.Op {
			l[2][0].Value, l[2][1].Value = stored("c1", "1", "a"), "1"
			return l[:3]
		}},
		{"an ID 0", func(l [][]api.Op) [][]api.Op {
			l[1][0].Value, l[1][1].Value = stored("c2", "0", "b"), "0"
			return l
		}},
		{"no last ID", func(l [][]api.Op) [][]api.Op { l[1] = append(l[1][:1], l[1][2:]...); return l }},
		{"a last ID that is gone", func(l [][]api.Op) [][]api.Op { l[1][1] = gone("n/c2"); return l }},
		{"another last ID", func(l [][]api.Op) [][]api.Op { l[1][1].Value = "2"; return l }},
		{"a last ID with a nought ahead", func(l [][]api.Op) [][]api.Op { l[1][1].Value = "01"; return l }},
		{"an empty last ID", func(l [][]api.Op) [][]api.Op { l[1][1].Value = ""; return l }},
		{"a last ID as it was", func(l [][]api.Op) [][]api.Op { l[3] = append(l[3][:1], l[3][2:]...); return l }},
		{"a last ID that was written again", func(l [][]api.Op) [][]api.Op { l[2] = append(l[2], l[1][1]); return l }},
		{"a client without mutations", func(l [][]api.Op) [][]api.Op { l[1] = append(l[1], has("n/c3", "0")); return l }},
		{"an entry more", func(l [][]api.Op) [][]api.Op { l[1] = append(l[1], has("d/i/c", openIssue)); return l }},
		{"an entry less", func(l [][]api.Op) [][]api.Op { l[0] = l[0][:2]; return l }},
		{"an entry that is gone", func(l [][]api.Op) [][]api.Op { l[2] = append(l[2], gone("d/i/a")); return l }},
		{"an entry that is not", func(l [][]api.Op) [][]api.Op { l[3] = l[3][:2]; return l }},
		{"an entry's value", func(l [][]api.Op) [][]api.Op { l[0][2].Value = "{}"; return l }},
		{"an entry's value exchanged by another commit", func(l [][]api.Op) [][]api.Op { l[2] = append(l[2], has("d/i/a", "{}")); return l }},
		{"an entry that was written again", func(l [][]api.Op) [][]api.Op { l[2] = append(l[2], l[0][2]); return l }},
		{"an entry under another key", func(l [][]api.Op) [][]api.Op { l[0][2].Key = "d/i/A"; return l }},
		{"an entry without its head", func(l [][]api.Op) [][]api.Op { l[0][2].Key = "i/a"; return l }},
	} {
		d := diskOf(t, x.change(handmade()))
		for _, d := range []*disk.Disk{d, compacted(d)} {
			if s, e := sequencer.Open(d); s != nil || e != api.ErrStore {
				t.Errorf("%s: error %d", x.what, e)
			}
		}
	}
}

// recordsOf is a disk with these records of kvstore.
func recordsOf(t *testing.T, records ...[]byte) *disk.Disk {
	t.Helper()
	d := newDisk(t, 100000)
	log, _ := seglog.Open(d)
	for _, rec := range records {
		if _, e := log.Append(rec); e != api.OK {
			t.Fatal(e)
		}
	}
	return d
}

func TestP14_1NoStore(t *testing.T) {
	for what, d := range map[string]*disk.Disk{
		"no record of kvstore":              recordsOf(t, []byte("x")),
		"a version that nothing explains":   recordsOf(t, []byte{4}, []byte{3, 1}),
		"the greatest version, and nothing": recordsOf(t, []byte{4}, wire.Number([]byte{3}, 1<<40)),
		"another program's store":           diskOf(t, [][]api.Op{{has("other", "1")}}),
	} {
		if s, e := sequencer.Open(d); s != nil || e != api.ErrStore {
			t.Errorf("%s: error %d", what, e)
		}
	}
	if s, e := sequencer.Open(recordsOf(t, []byte{4}, []byte{3, 0})); e != api.OK || s.Top() != 0 {
		t.Errorf("an empty snapshot: error %d", e)
	}
}
