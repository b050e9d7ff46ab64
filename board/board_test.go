package board_test

import (
	"math"
	"math/rand"
	"reflect"
	"slices"
	"sort"
	"strconv"
	"strings"
	"testing"

	"blotter/api"
	"blotter/board"
	"blotter/tracker"
)

func issueEntry(id, owner, status, title string) api.Entry {
	return api.Entry{Key: "i/" + id, Value: `{"owner":"` + owner + `","status":"` + status + `","title":"` + title + `"}`}
}

func commentEntry(id, name, by, text string) api.Entry {
	return api.Entry{Key: "c/" + id + "/" + name, Value: `{"by":"` + by + `","text":"` + text + `"}`}
}

func labelEntry(id, name string) api.Entry {
	return api.Entry{Key: "l/" + id + "/" + name, Value: "1"}
}

// same holds two issues against each other, nil and empty lists being the same.
func same(a, b api.Issue) bool {
	return a.ID == b.ID && a.Title == b.Title && a.Status == b.Status && a.Owner == b.Owner && slices.Equal(a.Labels, b.Labels) && slices.Equal(a.Comments, b.Comments)
}

func wantPage(t *testing.T, l []api.Entry, f api.Filter, more bool, ids ...string) {
	t.Helper()
	page, gotMore, e := board.List(l, f)
	var got []string
	for _, issue := range page {
		got = append(got, issue.ID)
	}
	if e != api.OK || gotMore != more || !slices.Equal(got, ids) {
		t.Errorf("%+v: %v, %v, error %d; want %v, %v", f, got, gotMore, e, ids, more)
	}
}

// The document's example.
func TestP12Example(t *testing.T) {
	var l []api.Entry
	for _, m := range []api.Mutation{{Kind: api.KCreate, Issue: "a", Text: "first"}, {Kind: api.KLabel, Issue: "a", Name: "bug"}, {Kind: api.KComment, Issue: "a", Name: "c1", Text: "hi"}} {
		l, _ = tracker.Do(l, "x", m)
	}
	wantPage(t, l, api.Filter{Label: "bug", Most: 1}, false, "a")
	if page, more, e := board.List(l, api.Filter{}); len(page) != 0 || more || e != api.ErrArg {
		t.Errorf("%v, %v, error %d", page, more, e)
	}
	if open, closed := board.Count(l); open != 1 || closed != 0 {
		t.Errorf("%d open, %d closed", open, closed)
	}
	if got := board.Labels(l); !slices.Equal(got, []string{"bug"}) {
		t.Errorf("labels %v", got)
	}
}

// odd is a state in which much lies that tells nothing.
func odd() []api.Entry {
	long := strings.Repeat("n", 25)
	return []api.Entry{
		labelEntry("a", "z"), labelEntry("a", "b"), {Key: "l/a/B", Value: ""}, {Key: "l/a/2", Value: "what"}, {Key: "l/a/", Value: "1"}, {Key: "l/a/ ", Value: "1"}, {Key: "l/a/b/c", Value: "1"}, {Key: "l/a/" + long, Value: "1"}, {Key: "l/a", Value: "1"},
		issueEntry("a", "", "open", "old"), issueEntry("a", "o", "closed", "new"),
		commentEntry("a", "d", "x", "2"), commentEntry("a", "c", "y", "old"), commentEntry("a", "c", "y", "1"), {Key: "c/a/e", Value: "{}"}, commentEntry("a", "f", "", "t"), commentEntry("a", "f/g", "x", "t"), commentEntry("a", "", "x", "t"), commentEntry("a", long, "x", "t"),
		commentEntry("a", "g", "x", "t"), {Key: "c/a/g", Value: "gone wrong"},
		commentEntry("n", "c", "x", "t"), labelEntry("n", "b"), labelEntry("n", "only"),
		issueEntry("bad", "", "open", "t"), {Key: "i/bad", Value: "no"}, labelEntry("bad", "only"), commentEntry("bad", "c", "x", "t"),
		issueEntry("", "", "open", "t"), issueEntry("b c", "", "open", "t"), labelEntry("b c", "only"), issueEntry("a/b", "", "open", "t"), issueEntry(long, "", "open", "t"), labelEntry("", "only"), commentEntry("", "c", "x", "t"),
		{}, {Key: "x/a", Value: "1"}, {Key: "a", Value: "1"}, {Key: "I/a", Value: issueEntry("a", "", "open", "t").Value},
		issueEntry("a.", "", "open", "next"), labelEntry("a.", "B"),
	}
}

func TestP12_1Find(t *testing.T) {
	want := api.Issue{ID: "a", Title: "new", Status: "closed", Owner: "o", Labels: []string{"2", "B", "b", "z"}, Comments: []api.Comment{{ID: "c", By: "y", Text: "1"}, {ID: "d", By: "x", Text: "2"}}}
	if got, ok := board.Find(odd(), "a"); !ok || !reflect.DeepEqual(got, want) {
		t.Errorf("%+v, %v", got, ok)
	}
	want = api.Issue{ID: "a.", Title: "next", Status: "open", Labels: []string{"B"}}
	if got, ok := board.Find(odd(), "a."); !ok || !same(got, want) {
		t.Errorf("%+v, %v", got, ok)
	}
	for _, id := range []string{"", "n", "bad", "b c", "a/b", "A", "a ", "x", "i", "i/a", strings.Repeat("n", 25), "\xff", "a/", "/"} {
		if got, ok := board.Find(odd(), id); ok || !reflect.DeepEqual(got, api.Issue{}) {
			t.Errorf("%q: %+v, %v", id, got, ok)
		}
	}
	if got, ok := board.Find(nil, "a"); ok || !reflect.DeepEqual(got, api.Issue{}) {
		t.Errorf("of nothing: %+v, %v", got, ok)
	}
}

func TestP12_2Errors(t *testing.T) {
	name, word := strings.Repeat("n", 24), strings.Repeat("w", 512)
	right := []api.Filter{{Most: 1}, {Most: 100}, {Status: "open", Most: 1}, {Status: "closed", Owner: name, Label: name, Word: word, After: name, Most: 100}, {Word: "\xff\x00", Most: 2}}
	for _, f := range right {
		if page, more, e := board.List(nil, f); len(page) != 0 || more || e != api.OK {
			t.Errorf("%.200v: %v, %v, error %d", f, page, more, e)
		}
	}
	bad := func(f api.Filter, want api.Errno) {
		t.Helper()
		if page, more, e := board.List(odd(), f); len(page) != 0 || more || e != want {
			t.Errorf("%.200v: %v, %v, error %d, want %d", f, page, more, e, want)
		}
	}
	// Each line has all faults of those below it, too.
	f := api.Filter{Status: "shut", Owner: "a b", Label: name + "n", Word: word + "w", After: "/", Most: 0}
	bad(f, api.ErrArg)
	f.Status = ""
	bad(f, api.ErrName)
	f.Owner = name
	bad(f, api.ErrName)
	f.Label = ""
	bad(f, api.ErrLong)
	f.Word = word
	bad(f, api.ErrName)
	f.After = ""
	bad(f, api.ErrArg)
	for _, most := range []int{0, -1, 101, math.MaxInt, math.MinInt} {
		bad(api.Filter{Most: most}, api.ErrArg)
	}
	for _, status := range []string{"Open", "open ", "closedd", " ", "\xff"} {
		bad(api.Filter{Status: status, Most: 1}, api.ErrArg)
	}
	for _, s := range []string{" ", "a b", "é", "a/b", name + "n"} {
		bad(api.Filter{Owner: s, Most: 1}, api.ErrName)
		bad(api.Filter{Label: s, Most: 1}, api.ErrName)
		bad(api.Filter{After: s, Most: 1}, api.ErrName)
	}
	bad(api.Filter{Owner: "a b", Label: "a", Most: 1}, api.ErrName)
	bad(api.Filter{Word: word + "w", Most: 1}, api.ErrLong)
	bad(api.Filter{Word: strings.Repeat("é", 256) + "w", Most: 1}, api.ErrLong)
}

func TestP12_2Filter(t *testing.T) {
	l := []api.Entry{
		issueEntry("b", "x", "open", "the wood"), labelEntry("b", "ui"), labelEntry("b", "bug"),
		issueEntry("a", "", "open", "a word"), labelEntry("a", "bug"),
		issueEntry("B", "y", "closed", "Word"), issueEntry("a-", "x", "closed", "words é"), labelEntry("a-", "bu"),
		issueEntry("a.b", "xx", "open", "w"), {Key: "l/a.b/bug", Value: "no"}, {Key: "c/a.b/word", Value: "word"},
	}
	most := func(f api.Filter) api.Filter { f.Most = 100; return f }
	wantPage(t, l, most(api.Filter{}), false, "B", "a", "a-", "a.b", "b")
	wantPage(t, l, most(api.Filter{Status: "open"}), false, "a", "a.b", "b")
	wantPage(t, l, most(api.Filter{Status: "closed"}), false, "B", "a-")
	wantPage(t, l, most(api.Filter{Owner: "x"}), false, "a-", "b")
	wantPage(t, l, most(api.Filter{Owner: "z"}), false)
	wantPage(t, l, most(api.Filter{Label: "bug"}), false, "a", "a.b", "b")
	wantPage(t, l, most(api.Filter{Label: "bu"}), false, "a-")
	wantPage(t, l, most(api.Filter{Word: "word"}), false, "a", "a-")
	wantPage(t, l, most(api.Filter{Word: "\xa9"}), false, "a-")
	wantPage(t, l, most(api.Filter{Word: " "}), false, "a", "a-", "b")
	wantPage(t, l, most(api.Filter{Word: "a word"}), false, "a")
	wantPage(t, l, most(api.Filter{Word: "a word "}), false)
	wantPage(t, l, most(api.Filter{After: "a"}), false, "a-", "a.b", "b")
	wantPage(t, l, most(api.Filter{After: "a-"}), false, "a.b", "b")
	wantPage(t, l, most(api.Filter{After: "A"}), false, "B", "a", "a-", "a.b", "b")
	wantPage(t, l, most(api.Filter{After: "b"}), false)
	wantPage(t, l, most(api.Filter{Status: "open", Label: "bug", Owner: "x", Word: "wood", After: "a"}), false, "b")
	wantPage(t, l, most(api.Filter{Status: "closed", Label: "bug"}), false)
	wantPage(t, l, api.Filter{Most: 4}, true, "B", "a", "a-", "a.b")
	wantPage(t, l, api.Filter{Most: 5}, false, "B", "a", "a-", "a.b", "b")
	wantPage(t, l, api.Filter{Most: 2, Status: "open"}, true, "a", "a.b")
	wantPage(t, l, api.Filter{Most: 3, Status: "open"}, false, "a", "a.b", "b")
	wantPage(t, l, api.Filter{Most: 1, Status: "open", After: "a"}, true, "a.b")
	wantPage(t, l, api.Filter{Most: 2, After: "a"}, true, "a-", "a.b")
	wantPage(t, l, api.Filter{Most: 1, Owner: "x", After: "a-"}, false, "b")
}

func TestP12_3CountAndLabels(t *testing.T) {
	for i, x := range []struct {
		l            []api.Entry
		open, closed int
		labels       []string
	}{
		{nil, 0, 0, nil},
		{odd(), 1, 1, []string{"2", "B", "b", "z"}},
		{[]api.Entry{labelEntry("a", "b"), commentEntry("a", "b", "x", "t")}, 0, 0, nil},
		{[]api.Entry{issueEntry("a", "", "open", "t"), issueEntry("b", "", "open", "t"), issueEntry("c", "", "closed", "t"), issueEntry("d", "", "open", "t")}, 3, 1, nil},
		{[]api.Entry{issueEntry("a", "", "closed", "t"), issueEntry("b", "", "open", "t"), labelEntry("b", "z"), labelEntry("b", "a"), labelEntry("a", "z"), labelEntry("a", "Y"), labelEntry("c", "n")}, 1, 1, []string{"Y", "a", "z"}},
		{[]api.Entry{issueEntry("a", "", "open", "t"), issueEntry("a", "", "closed", "t")}, 0, 1, nil},
	} {
		if open, closed := board.Count(x.l); open != x.open || closed != x.closed {
			t.Errorf("%d: %d open, %d closed", i, open, closed)
		}
		if got := board.Labels(x.l); !slices.Equal(got, x.labels) {
			t.Errorf("%d: labels %v", i, got)
		}
	}
}

var (
	people = []string{"x", "y", "z"}
	words  = []string{"one", "two", "one two", "three é"}
)

func oneOf(r *rand.Rand, l []string) string { return l[r.Intn(len(l))] }

// randomIssues are by rising IDs, and randomly laid out as entries, with much that tells nothing.
func randomIssues(r *rand.Rand, size int) ([]api.Issue, []api.Entry) {
	var issues []api.Issue
	var l []api.Entry
	for _, n := range r.Perm(3 * size)[:size] {
		x := api.Issue{ID: "i" + strconv.Itoa(n), Title: oneOf(r, words), Status: oneOf(r, []string{"open", "closed"}), Owner: oneOf(r, append(people, ""))}
		l = append(l, issueEntry(x.ID, x.Owner, x.Status, x.Title))
		for _, label := range []string{"bug", "ui", "doc"} {
			if r.Intn(2) == 0 {
				x.Labels = append(x.Labels, label)
				l = append(l, labelEntry(x.ID, label))
			}
		}
		for i := range r.Intn(3) {
			c := api.Comment{ID: "c" + strconv.Itoa(i), By: oneOf(r, people), Text: oneOf(r, words)}
			x.Comments = append(x.Comments, c)
			l = append(l, commentEntry(x.ID, c.ID, c.By, c.Text))
		}
		slices.Sort(x.Labels)
		issues = append(issues, x)
	}
	l = append(l, api.Entry{Key: "i/", Value: "1"}, labelEntry("none", "bug"), commentEntry("i0", "bad", "", ""))
	r.Shuffle(len(l), func(i, j int) { l[i], l[j] = l[j], l[i] })
	sort.Slice(issues, func(i, j int) bool { return issues[i].ID < issues[j].ID })
	return issues, l
}

func randomFilter(r *rand.Rand) api.Filter {
	f := api.Filter{Most: 1 + r.Intn(12)}
	if r.Intn(2) == 0 {
		f.Status = oneOf(r, []string{"open", "closed"})
	}
	if r.Intn(3) == 0 {
		f.Owner = oneOf(r, people)
	}
	if r.Intn(3) == 0 {
		f.Label = oneOf(r, []string{"bug", "ui", "doc", "none"})
	}
	if r.Intn(3) == 0 {
		f.Word = oneOf(r, []string{"one", "two", "e t", "\xc3", "x"})
	}
	if r.Intn(3) == 0 {
		f.After = "i" + strconv.Itoa(r.Intn(60))
	}
	return f
}

// wanted is the issues that a filter asks for.
func wanted(issues []api.Issue, f api.Filter) []api.Issue {
	var out []api.Issue
	for _, x := range issues {
		wrong := f.Status != "" && x.Status != f.Status || f.Owner != "" && x.Owner != f.Owner || f.Label != "" && !slices.Contains(x.Labels, f.Label)
		if !wrong && strings.Index(x.Title, f.Word) >= 0 && strings.Compare(x.ID, f.After) > 0 {
			out = append(out, x)
		}
	}
	return out
}

func TestP12_2Model(t *testing.T) {
	r := rand.New(rand.NewSource(12))
	for range 150 {
		issues, l := randomIssues(r, r.Intn(25))
		for range 12 {
			f := randomFilter(r)
			want := wanted(issues, f)
			more := len(want) > f.Most
			want = want[:min(len(want), f.Most)]
			page, gotMore, e := board.List(l, f)
			if e != api.OK || gotMore != more || !slices.EqualFunc(page, want, same) {
				t.Fatalf("%+v: %+v, %v, error %d; want %+v, %v", f, page, gotMore, e, want, more)
			}
		}
	}
}

// pages is all that a filter asks for, page by page.
func pages(t *testing.T, l []api.Entry, f api.Filter) []api.Issue {
	t.Helper()
	var all []api.Issue
	for {
		page, more, e := board.List(l, f)
		if e != api.OK || len(page) > f.Most || more && len(page) < f.Most {
			t.Fatalf("%+v: %d issues, %v, error %d", f, len(page), more, e)
		}
		all = append(all, page...)
		if !more {
			return all
		}
		f.After = page[len(page)-1].ID
	}
}

func TestP12_4Pages(t *testing.T) {
	r := rand.New(rand.NewSource(4))
	for range 120 {
		_, l := randomIssues(r, r.Intn(40))
		f := randomFilter(r)
		got := pages(t, l, f)
		f.Most = 100
		whole, more, _ := board.List(l, f)
		if more || !slices.EqualFunc(got, whole, same) {
			t.Fatalf("%+v: %v, want %v", f, got, whole)
		}
	}
}

func TestP12_4ManyPages(t *testing.T) {
	issues, l := randomIssues(rand.New(rand.NewSource(44)), 250)
	for _, most := range []int{1, 99, 100} {
		if got := pages(t, l, api.Filter{Most: most}); !slices.EqualFunc(got, issues, same) {
			t.Errorf("pages of %d: %d issues", most, len(got))
		}
	}
	if page, more, _ := board.List(l, api.Filter{Most: 100}); len(page) != 100 || !more {
		t.Errorf("%d issues, %v", len(page), more)
	}
}

func TestP12_5AskedFor(t *testing.T) {
	r := rand.New(rand.NewSource(55))
	for range 80 {
		issues, l := randomIssues(r, r.Intn(30))
		f := randomFilter(r)
		listed := pages(t, l, f)
		for _, x := range listed {
			if found, ok := board.Find(l, x.ID); !ok || !same(found, x) || len(wanted([]api.Issue{x}, f)) == 0 {
				t.Fatalf("%+v: %+v is listed, %+v, %v found", f, x, found, ok)
			}
		}
		for _, x := range issues {
			in := slices.ContainsFunc(listed, func(y api.Issue) bool { return same(x, y) })
			if in != (len(wanted([]api.Issue{x}, f)) > 0) {
				t.Fatalf("%+v: %+v is listed: %v", f, x, in)
			}
		}
	}
}

// fulfilled tells whether an issue is as a mutation wanted it.
func fulfilled(x api.Issue, there bool, by string, m api.Mutation) bool {
	at := slices.IndexFunc(x.Comments, func(c api.Comment) bool { return c.ID == m.Name })
	switch m.Kind {
	case api.KCreate:
		return there && same(x, api.Issue{ID: m.Issue, Title: m.Text, Status: "open"})
	case api.KTitle:
		return there && x.Title == m.Text
	case api.KStatus:
		return there && x.Status == m.Text
	case api.KAssign:
		return there && x.Owner == m.Name
	case api.KComment, api.KEdit:
		return there && at >= 0 && x.Comments[at] == api.Comment{ID: m.Name, By: by, Text: m.Text}
	case api.KUncomment:
		return there && at < 0
	case api.KLabel:
		return there && slices.Contains(x.Labels, m.Name)
	case api.KUnlabel:
		return there && !slices.Contains(x.Labels, m.Name)
	}
	return !there
}

func TestP12_6AsDone(t *testing.T) {
	r := rand.New(rand.NewSource(66))
	var l []api.Entry
	done := map[int]int{}
	for range 4000 {
		by := oneOf(r, people)
		m := api.Mutation{Kind: 1 + r.Intn(10), Issue: oneOf(r, []string{"a", "b", "a.b"})}
		if m.Kind == api.KDelete && r.Intn(4) > 0 {
			continue
		}
		name, text := oneOf(r, []string{"n1", "n2", "n3", "a"}), oneOf(r, []string{"t", "\"é\\\n", strings.Repeat("\x01", 512)})
		for _, x := range []api.Mutation{{Name: name}, {Text: text}, {Name: name, Text: text}, {Text: oneOf(r, []string{"open", "closed"})}, {}} {
			if m.Name, m.Text = x.Name, x.Text; tracker.May(m) < 0 {
				break
			}
		}
		next, err := tracker.Do(l, by, m)
		if err != nil {
			continue
		}
		l = next
		done[m.Kind]++
		if x, there := board.Find(l, m.Issue); !fulfilled(x, there, by, m) {
			t.Fatalf("behind %v by %s: %+v, %v", m, by, x, there)
		}
	}
	for kind := api.KCreate; kind <= api.KDelete; kind++ {
		if done[kind] < 5 {
			t.Errorf("kind %d was done %d times", kind, done[kind])
		}
	}
}

// What is handed in stays as it is, the room behind it too; no list of an answer shares memory with another one.
func TestP12Memory(t *testing.T) {
	roomy := append(odd(), make([]api.Entry, 30)...)[:len(odd())]
	before := slices.Clone(roomy[:cap(roomy)])
	clearIssue := func(x api.Issue) {
		clear(x.Labels[:cap(x.Labels)])
		clear(x.Comments[:cap(x.Comments)])
	}
	page, _, _ := board.List(roomy, api.Filter{Most: 9})
	again, _, _ := board.List(roomy, api.Filter{Most: 9})
	found, _ := board.Find(roomy, "a")
	labels := board.Labels(roomy)
	board.Count(roomy)
	clearIssue(found)
	clear(labels[:cap(labels)])
	clearIssue(page[0])
	if !slices.EqualFunc(page[1:], again[1:], same) || len(again[0].Labels) != 4 || again[0].Labels[0] != "2" || again[0].Comments[0].ID != "c" {
		t.Errorf("%+v, %+v", page, again)
	}
	clear(page[:cap(page)])
	if !reflect.DeepEqual(roomy[:cap(roomy)], before) {
		t.Error("what was handed in has changed")
	}
	if again[1].ID != "a." {
		t.Errorf("%+v", again)
	}
}
