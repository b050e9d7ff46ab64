package tracker_test

import (
	"errors"
	"math"
	"reflect"
	"slices"
	"strconv"
	"strings"
	"testing"

	"blotter/api"
	"blotter/tracker"
)

func issueValue(owner, status, title string) string {
	return `{"owner":"` + owner + `","status":"` + status + `","title":"` + title + `"}`
}

func commentValue(by, text string) string { return `{"by":"` + by + `","text":"` + text + `"}` }

func issueEntry(id, owner, status, title string) api.Entry {
	return api.Entry{Key: "i/" + id, Value: issueValue(owner, status, title)}
}

func commentEntry(id, name, by, text string) api.Entry {
	return api.Entry{Key: "c/" + id + "/" + name, Value: commentValue(by, text)}
}

func labelEntry(id, name string) api.Entry {
	return api.Entry{Key: "l/" + id + "/" + name, Value: "1"}
}

func mutation(kind int, issue, name, text string) api.Mutation {
	return api.Mutation{Kind: kind, Issue: issue, Name: name, Text: text}
}

// put and gone are what a mutation writes.
func put(e api.Entry) []api.Op { return []api.Op{{Key: e.Key, Value: e.Value}} }

func gone(keys ...string) []api.Op {
	var ops []api.Op
	for _, key := range keys {
		ops = append(ops, api.Op{Key: key, Gone: true})
	}
	return ops
}

// wantFault looks for the number and the place, and for nothing else, in an error; of OK there is none.
func wantFault(t *testing.T, what string, err error, at int, why api.Errno) {
	t.Helper()
	if why == api.OK {
		if err != nil {
			t.Errorf("%s: %v", what, err)
		}
		return
	}
	if got, ok := err.(api.Fault); !ok || got != (api.Fault{At: at, Why: why}) {
		t.Errorf("%s: %#v, want %d at %d", what, err, why, at)
	}
	var f api.Fault
	if !errors.Is(err, why) || !errors.As(err, &f) || f.At != at {
		t.Errorf("%s: %v, want %d at %d", what, err, why, at)
	}
}

// Forms of a mutation's Name and Text, by its kind, as the document's table says them.
var forms = map[int][2]string{
	api.KCreate: {"empty", "words"}, api.KTitle: {"empty", "words"}, api.KStatus: {"empty", "status"},
	api.KAssign: {"name or empty", "empty"}, api.KComment: {"name", "words"}, api.KEdit: {"name", "words"},
	api.KUncomment: {"name", "empty"}, api.KLabel: {"name", "empty"}, api.KUnlabel: {"name", "empty"}, api.KDelete: {"empty", "empty"},
}

// samples are texts, and of which forms each is.
var samples = map[string]string{
	"": "empty, name or empty", "a": "name, name or empty, words", "A.b-c_9": "name, name or empty, words",
	"open": "name, name or empty, words, status", "closed": "name, name or empty, words, status", "Open": "name, name or empty, words", "shut": "name, name or empty, words",
	"a b": "words", " ": "words", "\x00": "words", "é": "words", "a/b": "words", "open ": "words",
	strings.Repeat("n", 24): "name, name or empty, words", strings.Repeat("n", 25): "words",
	strings.Repeat("w", 512): "words", strings.Repeat("w", 513): "", strings.Repeat("é", 256): "words", strings.Repeat("é", 256) + "w": "",
	"\xff": "", "a\xed\xa0\x80": "", strings.Repeat("w", 511) + "é": "",
}

func isOf(text, form string) bool {
	return slices.Contains(strings.Split(samples[text], ", "), form)
}

func TestP11_1May(t *testing.T) {
	for kind, form := range forms {
		for issue := range samples {
			for name := range samples {
				for text := range samples {
					want := -1
					switch {
					case !isOf(issue, "name"):
						want = 1
					case !isOf(name, form[0]):
						want = 2
					case !isOf(text, form[1]):
						want = 3
					}
					if got := tracker.May(mutation(kind, issue, name, text)); got != want {
						t.Fatalf("kind %d, %.30q, %.30q, %.30q: %d, want %d", kind, issue, name, text, got, want)
					}
				}
			}
		}
	}
}

func TestP11_1OtherKinds(t *testing.T) {
	for _, kind := range []int{0, -1, 11, 12, 100, math.MaxInt, math.MinInt} {
		for _, m := range []api.Mutation{{}, {Issue: "a"}, {Issue: "a", Name: "b", Text: "c"}, {Issue: "a", Text: "t"}, {Issue: " ", Name: " ", Text: "\xff"}} {
			m.Kind = kind
			if got := tracker.May(m); got != 0 {
				t.Errorf("%v: %d", m, got)
			}
		}
	}
}

// someState is a state with an open issue a, a closed one b, and parts of issues that are not there.
func someState() []api.Entry {
	return []api.Entry{
		commentEntry("a", "c1", "x", "hi"), commentEntry("a", "c2", "y", "ho"), {Key: "c/a/bad", Value: "{}"},
		commentEntry("b", "c1", "x", "hi"), commentEntry("n", "c1", "x", "hi"),
		issueEntry("a", "", "open", "first"), issueEntry("b", "x", "closed", "second"), {Key: "i/bad", Value: "{}"},
		labelEntry("a", "bug"), {Key: "l/a/odd", Value: ""}, labelEntry("b", "ui"), labelEntry("n", "bug"),
	}
}

func TestP11_2Changes(t *testing.T) {
	for _, x := range []struct {
		m   api.Mutation
		ops []api.Op
		at  int
		why api.Errno
	}{
		{mutation(api.KCreate, "n", "", "new"), put(issueEntry("n", "", "open", "new")), 0, api.OK},
		{mutation(api.KCreate, "bad", "", "new"), put(issueEntry("bad", "", "open", "new")), 0, api.OK},
		{mutation(api.KCreate, "a", "", "new"), nil, 1, api.ErrThere},
		{mutation(api.KCreate, "b", "", "new"), nil, 1, api.ErrThere},
		{mutation(api.KTitle, "a", "", "new"), put(issueEntry("a", "", "open", "new")), 0, api.OK},
		{mutation(api.KTitle, "a", "", "first"), put(issueEntry("a", "", "open", "first")), 0, api.OK},
		{mutation(api.KTitle, "b", "", "new"), put(issueEntry("b", "x", "closed", "new")), 0, api.OK},
		{mutation(api.KTitle, "n", "", "new"), nil, 1, api.ErrMissing},
		{mutation(api.KTitle, "bad", "", "new"), nil, 1, api.ErrMissing},
		{mutation(api.KStatus, "a", "", "closed"), put(issueEntry("a", "", "closed", "first")), 0, api.OK},
		{mutation(api.KStatus, "b", "", "open"), put(issueEntry("b", "x", "open", "second")), 0, api.OK},
		{mutation(api.KStatus, "b", "", "closed"), put(issueEntry("b", "x", "closed", "second")), 0, api.OK},
		{mutation(api.KStatus, "n", "", "open"), nil, 1, api.ErrMissing},
		{mutation(api.KAssign, "a", "z", ""), put(issueEntry("a", "z", "open", "first")), 0, api.OK},
		{mutation(api.KAssign, "b", "", ""), put(issueEntry("b", "", "closed", "second")), 0, api.OK},
		{mutation(api.KAssign, "bad", "z", ""), nil, 1, api.ErrMissing},
		{mutation(api.KComment, "a", "c3", "he"), put(commentEntry("a", "c3", "x", "he")), 0, api.OK},
		{mutation(api.KComment, "a", "bad", "he"), put(commentEntry("a", "bad", "x", "he")), 0, api.OK},
		{mutation(api.KComment, "a", "c1", "he"), nil, 2, api.ErrThere},
		{mutation(api.KComment, "a", "c2", "he"), nil, 2, api.ErrThere},
		{mutation(api.KComment, "b", "c3", "he"), nil, 1, api.ErrClosed},
		{mutation(api.KComment, "b", "c1", "he"), nil, 1, api.ErrClosed},
		{mutation(api.KComment, "n", "c3", "he"), nil, 1, api.ErrMissing},
		{mutation(api.KEdit, "a", "c1", "he"), put(commentEntry("a", "c1", "x", "he")), 0, api.OK},
		{mutation(api.KEdit, "a", "c2", "he"), nil, 2, api.ErrOther},
		{mutation(api.KEdit, "a", "c3", "he"), nil, 2, api.ErrMissing},
		{mutation(api.KEdit, "a", "bad", "he"), nil, 2, api.ErrMissing},
		{mutation(api.KEdit, "b", "c1", "he"), nil, 1, api.ErrClosed},
		{mutation(api.KEdit, "n", "c1", "he"), nil, 1, api.ErrMissing},
		{mutation(api.KUncomment, "a", "c1", ""), gone("c/a/c1"), 0, api.OK},
		{mutation(api.KUncomment, "a", "c2", ""), nil, 2, api.ErrOther},
		{mutation(api.KUncomment, "a", "c3", ""), nil, 2, api.ErrMissing},
		{mutation(api.KUncomment, "a", "bad", ""), nil, 2, api.ErrMissing},
		{mutation(api.KUncomment, "b", "c1", ""), nil, 1, api.ErrClosed},
		{mutation(api.KUncomment, "n", "c1", ""), nil, 1, api.ErrMissing},
		{mutation(api.KLabel, "a", "ui", ""), put(labelEntry("a", "ui")), 0, api.OK},
		{mutation(api.KLabel, "a", "bug", ""), nil, 2, api.ErrThere},
		{mutation(api.KLabel, "a", "odd", ""), nil, 2, api.ErrThere},
		{mutation(api.KLabel, "b", "bug", ""), nil, 1, api.ErrClosed},
		{mutation(api.KLabel, "b", "ui", ""), nil, 1, api.ErrClosed},
		{mutation(api.KLabel, "n", "ui", ""), nil, 1, api.ErrMissing},
		{mutation(api.KUnlabel, "a", "bug", ""), gone("l/a/bug"), 0, api.OK},
		{mutation(api.KUnlabel, "a", "odd", ""), gone("l/a/odd"), 0, api.OK},
		{mutation(api.KUnlabel, "a", "ui", ""), nil, 2, api.ErrMissing},
		{mutation(api.KUnlabel, "b", "ui", ""), nil, 1, api.ErrClosed},
		{mutation(api.KUnlabel, "b", "bug", ""), nil, 1, api.ErrClosed},
		{mutation(api.KUnlabel, "n", "bug", ""), nil, 1, api.ErrMissing},
		{mutation(api.KDelete, "a", "", ""), gone("c/a/bad", "c/a/c1", "c/a/c2", "i/a", "l/a/bug", "l/a/odd"), 0, api.OK},
		{mutation(api.KDelete, "b", "", ""), gone("c/b/c1", "i/b", "l/b/ui"), 0, api.OK},
		{mutation(api.KDelete, "n", "", ""), nil, 1, api.ErrMissing},
		{mutation(api.KDelete, "bad", "", ""), nil, 1, api.ErrMissing},
	} {
		what := "kind " + strconv.Itoa(x.m.Kind) + " " + x.m.Issue + " " + x.m.Name
		ops, err := tracker.Changes(someState(), "x", x.m)
		wantFault(t, what, err, x.at, x.why)
		if !slices.Equal(ops, x.ops) {
			t.Errorf("%s: %v, want %v", what, ops, x.ops)
		}
	}
}

// Who wants it is looked at first, then the mutation, whatever the state is.
func TestP11_2FirstError(t *testing.T) {
	wrong := []api.Mutation{{}, mutation(11, "a", "", ""), mutation(api.KTitle, "", "b", ""), mutation(api.KTitle, "a", "b", ""), mutation(api.KTitle, "n", "", ""), mutation(api.KLabel, "b", "", "x"), mutation(api.KStatus, "n", "", "shut")}
	for i, at := range []int{0, 0, 1, 2, 3, 2, 3} {
		ops, err := tracker.Changes(someState(), "x", wrong[i])
		wantFault(t, "mutation "+strconv.Itoa(i), err, at, api.ErrMutation)
		if len(ops) != 0 {
			t.Errorf("mutation %d: %v", i, ops)
		}
	}
	for _, by := range []string{"", "a b", strings.Repeat("n", 25), "é", "a/b", "\xff"} {
		for _, m := range append(wrong, mutation(api.KTitle, "a", "", "t"), mutation(api.KTitle, "n", "", "t")) {
			ops, err := tracker.Changes(someState(), by, m)
			wantFault(t, "by "+by, err, 0, api.ErrName)
			if len(ops) != 0 {
				t.Errorf("by %q: %v", by, ops)
			}
		}
	}
	if _, err := tracker.Changes(nil, strings.Repeat("n", 24), mutation(api.KCreate, "a", "", "t")); err != nil {
		t.Errorf("by a long name: %v", err)
	}
}

// Of each key the last entry counts, wherever it stands.
func TestP11_2LastEntry(t *testing.T) {
	l := []api.Entry{issueEntry("a", "", "open", "old"), {Key: "c/a/c", Value: "no"}, {Key: "i/b", Value: "no"}, issueEntry("a", "x", "closed", "mid"), issueEntry("b", "", "open", "b"), issueEntry("a", "y", "open", "new"), commentEntry("a", "c", "x", "hi"), commentEntry("b", "c", "x", "hi"), {Key: "c/b/c", Value: ""}}
	ops, err := tracker.Changes(l, "x", mutation(api.KStatus, "a", "", "closed"))
	if err != nil || !slices.Equal(ops, put(issueEntry("a", "y", "closed", "new"))) {
		t.Errorf("%v, %v", ops, err)
	}
	_, err = tracker.Changes(l, "x", mutation(api.KComment, "a", "c", "t"))
	wantFault(t, "a comment that is there", err, 2, api.ErrThere)
	_, err = tracker.Changes(l, "x", mutation(api.KComment, "b", "c", "t"))
	wantFault(t, "a comment that is not there", err, 0, api.OK)
	_, err = tracker.Changes(append(l, api.Entry{Key: "i/a"}), "x", mutation(api.KTitle, "a", "", "t"))
	wantFault(t, "an issue with a last value that is none", err, 1, api.ErrMissing)
}

// crowd is so many more entries behind a head.
func crowd(l []api.Entry, head, value string, size int) []api.Entry {
	for i := range size {
		l = append(l, api.Entry{Key: head + "p" + strconv.Itoa(i), Value: value})
	}
	return l
}

func TestP11_2Full(t *testing.T) {
	for _, x := range []struct {
		kind int
		head string
		text string
		most int
	}{{api.KComment, "c/a/", "t", 32}, {api.KLabel, "l/a/", "", 16}} {
		for _, value := range []string{commentValue("x", "t"), "1", ""} {
			for size := range x.most + 3 {
				l := crowd([]api.Entry{issueEntry("a", "", "open", "a")}, x.head, value, size)
				l = crowd(l, x.head, value, size/2)
				l = crowd(l, strings.ToUpper(x.head), value, 50)
				l = crowd(l, x.head[:1]+"/a.b/", value, 50)
				l = crowd(l, x.head[:1]+"/ab", value, 50)
				l = crowd(l, x.head[:1]+"/", value, 50)
				want := api.OK
				if size >= x.most {
					want = api.ErrFull
				}
				_, err := tracker.Changes(l, "x", mutation(x.kind, "a", "new", x.text))
				wantFault(t, strconv.Itoa(size)+" of kind "+strconv.Itoa(x.kind), err, 1, want)
			}
		}
	}
}

// What is there is told ahead of what is full; a key without a comment counts though.
func TestP11_2FullOrThere(t *testing.T) {
	l := crowd([]api.Entry{issueEntry("a", "", "open", "a")}, "c/a/", commentValue("y", "t"), 31)
	l = append(l, api.Entry{Key: "c/a/bad", Value: "no"})
	l = crowd(l, "l/a/", "1", 16)
	_, err := tracker.Changes(l, "x", mutation(api.KComment, "a", "p30", "t"))
	wantFault(t, "a comment that is there", err, 2, api.ErrThere)
	_, err = tracker.Changes(l, "x", mutation(api.KComment, "a", "bad", "t"))
	wantFault(t, "a key without a comment", err, 1, api.ErrFull)
	_, err = tracker.Changes(l, "x", mutation(api.KLabel, "a", "p15", ""))
	wantFault(t, "a label that is there", err, 2, api.ErrThere)
	_, err = tracker.Changes(l, "y", mutation(api.KEdit, "a", "p30", "t"))
	wantFault(t, "a comment that is edited", err, 0, api.OK)
}

// All keys that begin as the issue's do go, those of no name too, and none beside them.
func TestP11_2Delete(t *testing.T) {
	kept := []string{"c/a", "c/a.b/c", "c/ab/c", "c/b/a", "i/a.b", "i/a/", "i/a/b", "l/a", "l/a-/x", "l/b/a/x", "x/a/b", "C/a/x", "", "a/"}
	lost := []string{"c/a/", "c/a/ ", "c/a//", "c/a/b/c", "c/a/x", "i/a", "l/a/", "l/a/b/c", "l/a/x", "l/a/\xff"}
	l := []api.Entry{}
	for _, key := range append(slices.Clone(kept), lost...) {
		l = append(l, api.Entry{Key: key, Value: "v"})
	}
	slices.Reverse(l)
	l = append(l, issueEntry("a", "", "closed", "t"), api.Entry{Key: "c/a/x", Value: "w"})
	ops, err := tracker.Changes(l, "z", mutation(api.KDelete, "a", "", ""))
	if err != nil || !slices.Equal(ops, gone(lost...)) {
		t.Errorf("%v, %v", ops, err)
	}
	left, _ := tracker.Do(l, "z", mutation(api.KDelete, "a", "", ""))
	slices.Sort(kept)
	if got := keysOf(left); !slices.Equal(got, kept) {
		t.Errorf("left: %q", got)
	}
}

func keysOf(l []api.Entry) []string {
	var keys []string
	for _, e := range l {
		keys = append(keys, e.Key)
	}
	return keys
}

func TestP11_3Apply(t *testing.T) {
	for i, x := range []struct {
		l    []api.Entry
		ops  []api.Op
		want []api.Entry
	}{
		{nil, nil, nil},
		{[]api.Entry{{Key: "b", Value: "1"}, {Key: "a", Value: "2"}, {Key: "b", Value: "3"}, {}}, nil, []api.Entry{{}, {Key: "a", Value: "2"}, {Key: "b", Value: "3"}}},
		{nil, []api.Op{{Key: "b", Value: "1"}, {Key: "a", Value: "2"}, {Key: "b", Value: "3"}}, []api.Entry{{Key: "a", Value: "2"}, {Key: "b", Value: "3"}}},
		{[]api.Entry{{Key: "a", Value: "1"}, {Key: "a", Value: "2"}}, []api.Op{{Key: "a", Gone: true}}, nil},
		{[]api.Entry{{Key: "a", Value: "1"}}, []api.Op{{Key: "a", Gone: true, Value: "x"}, {Key: "a", Value: "2"}}, []api.Entry{{Key: "a", Value: "2"}}},
		{[]api.Entry{{Key: "a", Value: "1"}}, []api.Op{{Key: "a", Value: "2"}, {Key: "a", Gone: true}, {Key: "z", Gone: true}}, nil},
		{nil, []api.Op{{Key: "\xff", Value: "1"}, {Key: "é"}, {Key: "z"}, {Key: "Z"}, {Key: ""}, {Key: "za"}, {Key: "z\x00"}}, []api.Entry{{}, {Key: "Z"}, {Key: "z"}, {Key: "z\x00"}, {Key: "za"}, {Key: "é"}, {Key: "\xff", Value: "1"}}},
	} {
		if got := tracker.Apply(x.l, x.ops); !slices.Equal(got, x.want) {
			t.Errorf("%d: %v, want %v", i, got, x.want)
		}
	}
}

func TestP11_3Do(t *testing.T) {
	l := []api.Entry{{Key: "z", Value: "1"}, issueEntry("a", "", "open", "old"), {Key: "b", Value: "1"}, {Key: "b", Value: "2"}}
	got, err := tracker.Do(l, "x", mutation(api.KTitle, "a", "", "new"))
	want := []api.Entry{{Key: "b", Value: "2"}, issueEntry("a", "", "open", "new"), {Key: "z", Value: "1"}}
	if err != nil || !slices.Equal(got, want) {
		t.Errorf("%v, %v", got, err)
	}
	got, err = tracker.Do(l, "x", mutation(api.KTitle, "n", "", "new"))
	want[1] = issueEntry("a", "", "open", "old")
	wantFault(t, "an issue that is not there", err, 1, api.ErrMissing)
	if !slices.Equal(got, want) {
		t.Errorf("behind an error: %v", got)
	}
}

// goodState is a good one, with an issue that has all it may have.
func goodState() []api.Entry {
	var l []api.Entry
	for i := range 32 {
		l = append(l, commentEntry("a", "p"+strconv.Itoa(10+i), "x", "t"))
	}
	l = append(l, commentEntry("b", "c", "y", "u"), issueEntry("a", "", "open", "a"), issueEntry("b", "o", "closed", "b"), issueEntry("c", "", "open", "c"))
	for i := range 16 {
		l = append(l, labelEntry("a", "p"+strconv.Itoa(10+i)))
	}
	return append(l, labelEntry("b", "p"))
}

// changed is a good state with one entry more, in its place by the keys, or exchanged.
func changed(e api.Entry) []api.Entry {
	return tracker.Apply(goodState(), []api.Op{{Key: e.Key, Value: e.Value}})
}

func TestP11_4Good(t *testing.T) {
	for i, l := range [][]api.Entry{
		nil, {}, goodState(), {issueEntry("a", "", "open", "t")}, {issueEntry("a", "x", "closed", "t"), labelEntry("a", "b")}, {commentEntry("a", "b", "x", "t"), issueEntry("a", "x", "closed", "t")},
		changed(commentEntry("b", "d", "x", "t")), changed(labelEntry("c", "d")), changed(issueEntry("d", "", "open", "t")), changed(commentEntry("a", "p10", "y", "u")),
	} {
		if !tracker.Good(l) {
			t.Errorf("%d is not good", i)
		}
	}
}

func TestP11_4NotGood(t *testing.T) {
	turned := goodState()
	slices.Reverse(turned)
	swapped := goodState()
	swapped[3], swapped[4] = swapped[4], swapped[3]
	twice := append(goodState(), labelEntry("b", "p"))
	for i, l := range [][]api.Entry{
		turned, swapped, twice, {issueEntry("a", "", "open", "t"), issueEntry("a", "", "open", "u")},
		{issueEntry("a", "", "open", "t"), issueEntry("a", "", "open", "t")}, {issueEntry("b", "", "open", "t"), issueEntry("a", "", "open", "t")}, {labelEntry("a", "b"), issueEntry("a", "", "open", "t")}, {issueEntry("a", "", "open", "t"), commentEntry("a", "b", "x", "t")},
		{labelEntry("a", "b")}, {commentEntry("a", "b", "x", "t")}, {commentEntry("a", "b", "x", "t"), {Key: "i/a", Value: "1"}}, {{Key: "i/a", Value: "1"}, labelEntry("a", "b")},
		{{}}, {{Key: "a", Value: "1"}}, {{Key: "i/", Value: issueValue("", "open", "t")}}, {{Key: "i/a b", Value: issueValue("", "open", "t")}}, {{Key: "i/a/b", Value: issueValue("", "open", "t")}}, {{Key: "i/" + strings.Repeat("a", 25), Value: issueValue("", "open", "t")}},
		{{Key: "c//b", Value: commentValue("x", "t")}, {Key: "i/", Value: issueValue("", "open", "t")}}, {{Key: "i/", Value: issueValue("", "open", "t")}, {Key: "l//b", Value: "1"}}, {{Key: "i/", Value: issueValue("", "open", "t")}, {Key: "x", Value: "1"}},
		changed(commentEntry("a", "q", "x", "t")), changed(labelEntry("a", "q")), changed(commentEntry("n", "c", "x", "t")), changed(labelEntry("n", "b")),
		changed(api.Entry{Key: "c/b/", Value: commentValue("x", "t")}), changed(api.Entry{Key: "c/b/d/e", Value: commentValue("x", "t")}), changed(api.Entry{Key: "l/b/", Value: "1"}), changed(api.Entry{Key: "l/b/ ", Value: "1"}),
		changed(api.Entry{Key: "c/b/c", Value: "1"}), changed(commentEntry("b", "c", "", "t")), changed(commentEntry("b", "c", "x", "")), changed(api.Entry{Key: "c/b/c", Value: `{"text":"t","by":"x"}`}),
		changed(api.Entry{Key: "l/b/p", Value: ""}), changed(api.Entry{Key: "l/b/p", Value: "2"}), changed(api.Entry{Key: "l/b/p", Value: "11"}), changed(api.Entry{Key: "l/c/p", Value: "true"}),
		changed(issueEntry("c", "a b", "open", "t")), changed(issueEntry("c", "", "shut", "t")), changed(issueEntry("c", "", "open", "")), changed(api.Entry{Key: "i/c", Value: " " + issueValue("", "open", "t")}), changed(api.Entry{Key: "i/d"}),
		changed(api.Entry{Key: "z", Value: "1"}), changed(api.Entry{Key: "", Value: "1"}), changed(api.Entry{Key: "d/a/b", Value: commentValue("x", "t")}), changed(api.Entry{Key: "I/a", Value: issueValue("", "open", "t")}),
	} {
		if tracker.Good(l) {
			t.Errorf("%d is good: %.300v", i, l)
		}
	}
}

// The document's example.
func TestP11Example(t *testing.T) {
	var l []api.Entry
	for i, x := range []struct {
		by   string
		m    api.Mutation
		at   int
		why  api.Errno
		want []api.Entry
	}{
		{"x", mutation(api.KCreate, "a", "", "first"), 0, api.OK, []api.Entry{issueEntry("a", "", "open", "first")}},
		{"x", mutation(api.KLabel, "a", "bug", ""), 0, api.OK, []api.Entry{issueEntry("a", "", "open", "first"), labelEntry("a", "bug")}},
		{"x", mutation(api.KComment, "a", "c1", "hi"), 0, api.OK, []api.Entry{commentEntry("a", "c1", "x", "hi"), issueEntry("a", "", "open", "first"), labelEntry("a", "bug")}},
		{"y", mutation(api.KEdit, "a", "c1", "ho"), 2, api.ErrOther, []api.Entry{commentEntry("a", "c1", "x", "hi"), issueEntry("a", "", "open", "first"), labelEntry("a", "bug")}},
		{"y", mutation(api.KStatus, "a", "", "closed"), 0, api.OK, []api.Entry{commentEntry("a", "c1", "x", "hi"), issueEntry("a", "", "closed", "first"), labelEntry("a", "bug")}},
		{"y", mutation(api.KLabel, "a", "ui", ""), 1, api.ErrClosed, []api.Entry{commentEntry("a", "c1", "x", "hi"), issueEntry("a", "", "closed", "first"), labelEntry("a", "bug")}},
		{"y", mutation(api.KDelete, "a", "", ""), 0, api.OK, nil},
	} {
		var err error
		l, err = tracker.Do(l, x.by, x.m)
		wantFault(t, "step "+strconv.Itoa(i), err, x.at, x.why)
		if !slices.Equal(l, x.want) {
			t.Errorf("step %d: %v", i, l)
		}
	}
}

// What is handed in stays as it is, the room behind it too, and answers share nothing with it.
func TestP11Memory(t *testing.T) {
	roomy := append(someState(), make([]api.Entry, 20)...)[:len(someState())]
	ops := append([]api.Op{{Key: "b", Value: "1"}, {Key: "a", Gone: true}}, make([]api.Op, 9)...)[:2]
	before, opsBefore := slices.Clone(roomy[:cap(roomy)]), slices.Clone(ops[:cap(ops)])
	var answers [][]api.Entry
	for kind := range forms {
		for _, m := range []api.Mutation{mutation(kind, "a", "c1", "open"), mutation(kind, "a", "", "open"), mutation(kind, "a", "bug", ""), mutation(kind, "a", "", "")} {
			first, _ := tracker.Changes(roomy, "x", m)
			clear(first[:cap(first)])
			done, _ := tracker.Do(roomy, "x", m)
			answers = append(answers, done, tracker.Apply(roomy, ops), tracker.Apply(roomy, nil))
			tracker.Good(roomy)
		}
	}
	for _, l := range answers {
		clear(l[:cap(l)])
	}
	if !reflect.DeepEqual(roomy[:cap(roomy)], before) || !reflect.DeepEqual(ops[:cap(ops)], opsBefore) {
		t.Error("what was handed in has changed")
	}
}
