package history_test

import (
	"math"
	"math/rand"
	"reflect"
	"slices"
	"strconv"
	"testing"
	"unsafe"

	"blotter/api"
	"blotter/history"
	"blotter/tracker"
)

func mutation(r *rand.Rand) api.Mutation {
	m := api.Mutation{Kind: 1 + r.Intn(10), Issue: []string{"a", "a.", "b"}[r.Intn(3)]}
	switch m.Kind {
	case api.KCreate, api.KTitle:
		m.Text = "t" + strconv.Itoa(r.Intn(3))
	case api.KStatus:
		m.Text = []string{"open", "open", "closed"}[r.Intn(3)]
	case api.KComment, api.KEdit:
		m.Text = "words"
		m.Name = strconv.Itoa(r.Intn(3))
	case api.KAssign, api.KUncomment, api.KLabel, api.KUnlabel:
		m.Name = strconv.Itoa(r.Intn(3))
	}
	return m
}

// A history is held against lists that are gone through from their beginning each time.
func TestP14_6History(t *testing.T) {
	r := rand.New(rand.NewSource(14))
	for range 40 {
		h := history.New()
		var log []api.Logged
		var state []api.Entry
		last := map[string]int{}
		for range 80 {
			x := api.Logged{Client: "c" + strconv.Itoa(r.Intn(3)), M: mutation(r)}
			for _, id := range []int{0, -1, 1, 2, math.MaxInt, math.MinInt, last[x.Client], last[x.Client] + 2} {
				x.ID = id
				if h.GoesOn(x) != (id == last[x.Client]+1) {
					t.Fatalf("%v behind %d", x, last[x.Client])
				}
			}
			x.ID = last[x.Client] + 1
			if !h.GoesOn(x) {
				t.Fatalf("%v does not go on", x)
			}
			ops, why := tracker.Changes(state, x.Client, x.M)
			if got, err := h.Changes(x); err != why || !slices.Equal(got, ops) {
				t.Fatalf("%v writes %v, %v, want %v, %v", x, got, err, ops, why)
			}
			h.Take(x)
			last[x.Client] = x.ID
			log = append(log, x)
			state, _ = tracker.Do(state, x.Client, x.M)
			if got := h.State(); !slices.Equal(got, state) {
				t.Fatalf("%v leads to %v, want %v", x, got, state)
			}
			if h.Top() != len(log) || h.Last(x.Client) != x.ID || h.Last("nobody") != 0 {
				t.Fatalf("top %d, last %d", h.Top(), h.Last(x.Client))
			}
		}
		for first := range len(log) + 1 {
			want := map[string]int{}
			for _, x := range log[:first] {
				want[x.Client] = x.ID
			}
			for _, client := range []string{"c0", "c1", "c2", "c3", ""} {
				if got := h.LastAmong(first, client); got != want[client] {
					t.Fatalf("among the first %d %s's last is %d, want %d", first, client, got, want[client])
				}
			}
			if got := h.Log(first, 5); !slices.Equal(got, log[first:min(first+5, len(log))]) {
				t.Fatalf("from %d: %v", first, got)
			}
		}
	}
}

func TestP14_1Log(t *testing.T) {
	h := history.New()
	x := api.Logged{Client: "c", ID: 1, M: api.Mutation{Kind: api.KCreate, Issue: "a", Text: "t"}}
	if len(h.Log(0, 1)) != 0 || len(h.State()) != 0 || h.Top() != 0 {
		t.Error("something is in a new one")
	}
	h.Take(x)
	for _, n := range [][2]int{{-1, 1}, {0, 0}, {0, -1}, {1, 1}, {2, 1}, {math.MinInt, math.MaxInt}, {math.MaxInt, math.MaxInt}, {0, math.MinInt}} {
		if got := h.Log(n[0], n[1]); len(got) != 0 {
			t.Errorf("from %d at most %d: %v", n[0], n[1], got)
		}
	}
	a, b := h.Log(0, math.MaxInt), h.State()
	if !reflect.DeepEqual(a, []api.Logged{x}) || len(b) != 1 {
		t.Errorf("%v, %v", a, b)
	}
	clear(a[:cap(a)])
	clear(b[:cap(b)])
	if !slices.Equal(h.Log(0, 1), []api.Logged{x}) || h.State()[0].Key != "i/a" {
		t.Error("it shares memory with its answers")
	}
}

// A text that is handed in, which may be a piece of a long one, is not kept.
func TestP14_2OwnTexts(t *testing.T) {
	h := history.New()
	x := api.Logged{Client: "client", ID: 1, M: api.Mutation{Kind: api.KComment, Issue: "issue", Name: "name", Text: "words"}}
	h.Take(x)
	kept := h.Log(0, 1)[0]
	if kept != x {
		t.Fatalf("%v", kept)
	}
	for _, pair := range [][2]string{{kept.Client, x.Client}, {kept.M.Issue, x.M.Issue}, {kept.M.Name, x.M.Name}, {kept.M.Text, x.M.Text}} {
		if unsafe.StringData(pair[0]) == unsafe.StringData(pair[1]) {
			t.Errorf("%q is the one that was handed in", pair[0])
		}
	}
}

// Mutations that wait are done behind the others, and are not taken.
func TestP15_6Waiting(t *testing.T) {
	r := rand.New(rand.NewSource(156))
	for range 60 {
		h := history.New()
		var state []api.Entry
		for i := range r.Intn(60) {
			x := api.Logged{Client: "c1", ID: i + 1, M: mutation(r)}
			h.Take(x)
			state, _ = tracker.Do(state, x.Client, x.M)
		}
		was := state
		var waiting []api.Logged
		for i := range 12 {
			x := api.Logged{Client: "c" + strconv.Itoa(r.Intn(2)), ID: i + 1, M: mutation(r)}
			ops, why := tracker.Changes(state, x.Client, x.M)
			if got, err := h.Changes(x, waiting...); err != why || !slices.Equal(got, ops) {
				t.Fatalf("%v writes %v, %v, want %v, %v", x, got, err, ops, why)
			}
			waiting = append(waiting, x)
			state, _ = tracker.Do(state, x.Client, x.M)
			if got := h.State(waiting...); !slices.Equal(got, state) {
				t.Fatalf("%v lead to %v, want %v", waiting, got, state)
			}
			if got := h.State(); !slices.Equal(got, was) {
				t.Fatalf("it took %v: %v", waiting, got)
			}
		}
	}
}
