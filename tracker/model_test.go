package tracker_test

import (
	"bytes"
	"encoding/json"
	"math/rand"
	"slices"
	"sort"
	"strconv"
	"strings"
	"testing"

	"blotter/api"
	"blotter/tracker"
)

// A model keeps issues as objects, not as entries.
type modelComment struct {
	By   string `json:"by"`
	Text string `json:"text"`
}

type modelIssue struct {
	Owner    string                  `json:"owner"`
	Status   string                  `json:"status"`
	Title    string                  `json:"title"`
	Comments map[string]modelComment `json:"-"`
	Labels   map[string]bool         `json:"-"`
}

type model map[string]*modelIssue

func printed(v any) string {
	var b bytes.Buffer
	enc := json.NewEncoder(&b)
	enc.SetEscapeHTML(false)
	enc.Encode(v)
	return strings.TrimSuffix(b.String(), "\n")
}

// entries is the model as the document lays it out.
func (w model) entries() []api.Entry {
	var l []api.Entry
	for id, x := range w {
		l = append(l, api.Entry{Key: "i/" + id, Value: printed(x)})
		for name, c := range x.Comments {
			l = append(l, api.Entry{Key: "c/" + id + "/" + name, Value: printed(c)})
		}
		for name := range x.Labels {
			l = append(l, api.Entry{Key: "l/" + id + "/" + name, Value: "1"})
		}
	}
	sort.Slice(l, func(i, j int) bool { return l[i].Key < l[j].Key })
	return l
}

// do does a mutation that can be, and answers its place and error.
func (w model) do(by string, m api.Mutation) (int, api.Errno) {
	x := w[m.Issue]
	if m.Kind == api.KCreate {
		if x != nil {
			return 1, api.ErrThere
		}
		w[m.Issue] = &modelIssue{Status: "open", Title: m.Text, Comments: map[string]modelComment{}, Labels: map[string]bool{}}
		return 0, api.OK
	}
	if x == nil {
		return 1, api.ErrMissing
	}
	switch m.Kind {
	case api.KTitle:
		x.Title = m.Text
		return 0, api.OK
	case api.KStatus:
		x.Status = m.Text
		return 0, api.OK
	case api.KAssign:
		x.Owner = m.Name
		return 0, api.OK
	case api.KDelete:
		delete(w, m.Issue)
		return 0, api.OK
	}
	if x.Status == "closed" {
		return 1, api.ErrClosed
	}
	if m.Kind == api.KLabel || m.Kind == api.KUnlabel {
		return x.label(m)
	}
	return x.comment(by, m)
}

func (x *modelIssue) label(m api.Mutation) (int, api.Errno) {
	there := x.Labels[m.Name]
	switch {
	case m.Kind == api.KLabel && there:
		return 2, api.ErrThere
	case m.Kind == api.KLabel && len(x.Labels) == 16:
		return 1, api.ErrFull
	case m.Kind == api.KLabel:
		x.Labels[m.Name] = true
	case !there:
		return 2, api.ErrMissing
	default:
		delete(x.Labels, m.Name)
	}
	return 0, api.OK
}

func (x *modelIssue) comment(by string, m api.Mutation) (int, api.Errno) {
	c, there := x.Comments[m.Name]
	switch {
	case m.Kind == api.KComment && there:
		return 2, api.ErrThere
	case m.Kind == api.KComment && len(x.Comments) == 32:
		return 1, api.ErrFull
	case m.Kind == api.KComment:
		x.Comments[m.Name] = modelComment{by, m.Text}
	case !there:
		return 2, api.ErrMissing
	case c.By != by:
		return 2, api.ErrOther
	case m.Kind == api.KEdit:
		x.Comments[m.Name] = modelComment{by, m.Text}
	default:
		delete(x.Comments, m.Name)
	}
	return 0, api.OK
}

var modelIssues = []string{"a", "a.b", "a-", "ab", "B"}

var modelPeople = []string{"x", "y", "Z.9"}

// randomMutation is one that can be; most are such as fill issues.
func randomMutation(r *rand.Rand) api.Mutation {
	kinds := []int{1, 1, 2, 3, 4, 5, 5, 5, 5, 5, 5, 6, 7, 8, 8, 8, 8, 8, 9}
	m := api.Mutation{Kind: kinds[r.Intn(len(kinds))], Issue: modelIssues[r.Intn(len(modelIssues))]}
	if r.Intn(100) == 0 {
		m.Kind = api.KDelete
	}
	form := forms[m.Kind]
	switch form[0] {
	case "name":
		m.Name = "n" + strconv.Itoa(r.Intn(40))
	case "name or empty":
		m.Name = []string{"", "x", "y"}[r.Intn(3)]
	}
	switch form[1] {
	case "words":
		m.Text = []string{"t", "a \"b\" \\c", "é😀", "<&>", strings.Repeat("w", 512)}[r.Intn(5)]
	case "status":
		m.Text = []string{"open", "open", "open", "closed"}[r.Intn(4)]
	}
	return m
}

func somebody(r *rand.Rand) string { return modelPeople[r.Intn(len(modelPeople))] }

func TestP11_2Model(t *testing.T) {
	r := rand.New(rand.NewSource(11))
	seen := map[api.Errno]int{}
	w := model{}
	var l []api.Entry
	for i := range 6000 {
		by, m := somebody(r), randomMutation(r)
		at, why := w.do(by, m)
		seen[why]++
		var err error
		l, err = tracker.Do(l, by, m)
		wantFault(t, "mutation "+strconv.Itoa(i), err, at, why)
		if want := w.entries(); !slices.Equal(l, want) {
			t.Fatalf("mutation %d, %v by %s: %v, want %v", i, m, by, l, want)
		}
		if i%20 == 0 && !tracker.Good(l) {
			t.Fatalf("mutation %d, %v: not good", i, m)
		}
	}
	for _, e := range []api.Errno{api.OK, api.ErrFull, api.ErrMissing, api.ErrThere, api.ErrOther, api.ErrClosed} {
		if seen[e] < 10 {
			t.Errorf("error %d came %d times", e, seen[e])
		}
	}
}

// scripted is a state that a row of mutations leads to.
func scripted(r *rand.Rand, steps int) []api.Entry {
	var l []api.Entry
	for range steps {
		l, _ = tracker.Do(l, somebody(r), randomMutation(r))
	}
	return l
}

func TestP11_5Good(t *testing.T) {
	r := rand.New(rand.NewSource(5))
	for range 60 {
		l := scripted(r, r.Intn(300))
		for range 20 {
			m := randomMutation(r)
			if r.Intn(4) == 0 {
				m.Name, m.Text = "\xff", " "
			}
			next, _ := tracker.Do(l, somebody(r), m)
			if !tracker.Good(next) {
				t.Fatalf("behind %v: %v", m, next)
			}
		}
	}
}

func TestP11_6Refused(t *testing.T) {
	r := rand.New(rand.NewSource(6))
	for range 40 {
		l := scripted(r, 200)
		for range 40 {
			m := randomMutation(r)
			ops, err := tracker.Changes(l, "y", m)
			next, doErr := tracker.Do(l, "y", m)
			if err != doErr || err != nil && (len(ops) > 0 || !slices.Equal(next, l)) {
				t.Fatalf("%v: %v, %v, %v", m, ops, err, doErr)
			}
		}
	}
}

// about tells whether a key is of an issue.
func about(key, id string) bool {
	return key == "i/"+id || strings.HasPrefix(key, "c/"+id+"/") || strings.HasPrefix(key, "l/"+id+"/")
}

func without(l []api.Entry, id string) []api.Entry {
	return slices.DeleteFunc(slices.Clone(l), func(e api.Entry) bool { return about(e.Key, id) })
}

func TestP11_7Apart(t *testing.T) {
	r := rand.New(rand.NewSource(7))
	for range 30 {
		l := scripted(r, 200)
		for range 40 {
			m, n := randomMutation(r), randomMutation(r)
			by, other := somebody(r), somebody(r)
			behind, _ := tracker.Do(l, by, m)
			if !slices.Equal(without(behind, m.Issue), without(l, m.Issue)) {
				t.Fatalf("%v changes another issue", m)
			}
			if m.Issue == n.Issue {
				continue
			}
			both, err := tracker.Do(behind, other, n)
			first, firstErr := tracker.Do(l, other, n)
			turned, turnedErr := tracker.Do(first, by, m)
			_, mErr := tracker.Do(l, by, m)
			if !slices.Equal(both, turned) || err != firstErr || mErr != turnedErr {
				t.Fatalf("%v and %v in the other order", m, n)
			}
		}
	}
}

func TestP11_8Gone(t *testing.T) {
	r := rand.New(rand.NewSource(8))
	for range 100 {
		l := scripted(r, 150)
		id := modelIssues[r.Intn(len(modelIssues))]
		behind, _ := tracker.Do(l, "x", mutation(api.KDelete, id, "", ""))
		if !slices.Equal(behind, without(l, id)) {
			t.Fatalf("left of %s: %v", id, behind)
		}
	}
}

func TestP11_9OnesOwn(t *testing.T) {
	r := rand.New(rand.NewSource(9))
	for range 60 {
		l := scripted(r, 200)
		m := randomMutation(r)
		by := somebody(r)
		behind, _ := tracker.Do(l, by, m)
		for _, e := range l {
			var c modelComment
			json.Unmarshal([]byte(e.Value), &c)
			others := strings.HasPrefix(e.Key, "c/") && c.By != by
			if others && !slices.Contains(behind, e) && (m.Kind != api.KDelete || !about(e.Key, m.Issue)) {
				t.Fatalf("%v by %s changes %v", m, by, e)
			}
		}
	}
}

func TestP11_10Again(t *testing.T) {
	r := rand.New(rand.NewSource(10))
	for range 40 {
		l := scripted(r, 200)
		for range 40 {
			by, m := somebody(r), randomMutation(r)
			once, _ := tracker.Do(l, by, m)
			if twice, _ := tracker.Do(once, by, m); !slices.Equal(once, twice) {
				t.Fatalf("%v again", m)
			}
		}
	}
}

// handmade is any entries, many of which no mutation leads to.
func handmade(r *rand.Rand) []api.Entry {
	keys := []string{"i/a", "i/a", "i/b", "c/a/n1", "c/a/n2", "c/b/n1", "c/a/", "c/a/n1/x", "l/a/n1", "l/a/n2", "l/b/n1", "l/a/", "", "x", "i/", "c/", "c/a"}
	values := []string{issueValue("", "open", "t"), issueValue("x", "closed", "t"), issueValue("", "open", "t"), issueValue("", "", "t"), commentValue("x", "t"), commentValue("y", "t"), commentValue("", "t"), "1", "", "{}"}
	var l []api.Entry
	for range r.Intn(25) {
		l = append(l, api.Entry{Key: keys[r.Intn(len(keys))], Value: values[r.Intn(len(values))]})
	}
	if r.Intn(3) == 0 {
		l = crowd(l, []string{"c/a/", "l/a/"}[r.Intn(2)], values[r.Intn(len(values))], 10+r.Intn(25))
		r.Shuffle(len(l), func(i, j int) { l[i], l[j] = l[j], l[i] })
	}
	return l
}

// naive is a state as a plain map, with the words of the document one behind the other.
type naive map[string]string

func (s naive) issue(id string) (x modelIssue, ok bool) {
	value := s["i/"+id]
	json.Unmarshal([]byte(value), &x)
	ok = printed(x) == value && (x.Status == "open" || x.Status == "closed") && x.Title != ""
	return x, ok
}

func (s naive) comment(id, name string) (c modelComment, ok bool) {
	value := s["c/"+id+"/"+name]
	json.Unmarshal([]byte(value), &c)
	return c, printed(c) == value && c.By != "" && c.Text != ""
}

func (s naive) size(head string) int {
	n := 0
	for key := range s {
		if strings.HasPrefix(key, head) {
			n++
		}
	}
	return n
}

func (s naive) fault(by string, m api.Mutation) (int, api.Errno) {
	x, there := s.issue(m.Issue)
	c, said := s.comment(m.Issue, m.Name)
	_, marked := s["l/"+m.Issue+"/"+m.Name]
	switch k := m.Kind; {
	case k == api.KCreate && there:
		return 1, api.ErrThere
	case k != api.KCreate && !there:
		return 1, api.ErrMissing
	case k < api.KComment || k == api.KDelete:
		return 0, api.OK
	case x.Status == "closed":
		return 1, api.ErrClosed
	case k == api.KComment && said, k == api.KLabel && marked:
		return 2, api.ErrThere
	case k == api.KComment && s.size("c/"+m.Issue+"/") >= 32, k == api.KLabel && s.size("l/"+m.Issue+"/") >= 16:
		return 1, api.ErrFull
	case (k == api.KEdit || k == api.KUncomment) && !said, k == api.KUnlabel && !marked:
		return 2, api.ErrMissing
	case (k == api.KEdit || k == api.KUncomment) && c.By != by:
		return 2, api.ErrOther
	}
	return 0, api.OK
}

func TestP11_2HandMade(t *testing.T) {
	r := rand.New(rand.NewSource(2))
	seen := map[api.Errno]int{}
	for range 8000 {
		l := handmade(r)
		s := naive{}
		for _, e := range l {
			s[e.Key] = e.Value
		}
		by, m := somebody(r), randomMutation(r)
		m.Issue = []string{"a", "a", "a", "b"}[r.Intn(4)]
		if m.Name != "" {
			m.Name = []string{"n1", "n1", "n2", "n3"}[r.Intn(4)]
		}
		if r.Intn(2) == 0 {
			l = append(l, issueEntry(m.Issue, "", "open", "t"))
			s["i/"+m.Issue] = l[len(l)-1].Value
		}
		at, why := s.fault(by, m)
		seen[why]++
		ops, err := tracker.Changes(l, by, m)
		wantFault(t, printed(m), err, at, why)
		if (err == nil) != (len(ops) > 0) || t.Failed() {
			t.Fatalf("%v of %v: %v, %v", m, l, ops, err)
		}
	}
	for _, e := range []api.Errno{api.OK, api.ErrFull, api.ErrMissing, api.ErrThere, api.ErrOther, api.ErrClosed} {
		if seen[e] < 10 {
			t.Errorf("error %d came %d times", e, seen[e])
		}
	}
}

func TestP11_3Random(t *testing.T) {
	r := rand.New(rand.NewSource(3))
	for range 2000 {
		l := handmade(r)
		var ops []api.Op
		for _, e := range handmade(r) {
			ops = append(ops, api.Op{Key: e.Key, Value: e.Value, Gone: r.Intn(2) == 0})
		}
		s := naive{}
		for _, e := range l {
			s[e.Key] = e.Value
		}
		for _, op := range ops {
			s[op.Key] = op.Value
			if op.Gone {
				delete(s, op.Key)
			}
		}
		got := tracker.Apply(l, ops)
		for i, e := range got {
			if value, ok := s[e.Key]; !ok || value != e.Value || i > 0 && got[i-1].Key >= e.Key {
				t.Fatalf("%v with %v: %v", l, ops, got)
			}
		}
		if len(got) != len(s) {
			t.Fatalf("%v with %v: %v", l, ops, got)
		}
	}
}
