package msg_test

import (
	"bytes"
	"encoding/json"
	"maps"
	"math/rand"
	"reflect"
	"slices"
	"strconv"
	"strings"
	"testing"

	"blotter/api"
	"blotter/msg"
)

// decoded is a text's tree, by the library.
func decoded(t *testing.T, s string) any {
	t.Helper()
	d := json.NewDecoder(strings.NewReader(s))
	d.UseNumber()
	var v any
	if err := d.Decode(&v); err != nil {
		t.Fatal(err)
	}
	return v
}

// shuffled is a tree's text, with members in any order and blanks between.
func shuffled(r *rand.Rand, v any) string {
	blank := strings.Repeat(" ", r.Intn(2))
	switch x := v.(type) {
	case map[string]any:
		names := slices.Sorted(maps.Keys(x))
		r.Shuffle(len(names), func(i, j int) { names[i], names[j] = names[j], names[i] })
		var parts []string
		for _, name := range names {
			parts = append(parts, strconv.Quote(name)+":"+blank+shuffled(r, x[name]))
		}
		return "{" + blank + strings.Join(parts, ","+blank) + "}" + blank
	case []any:
		var parts []string
		for _, item := range x {
			parts = append(parts, shuffled(r, item))
		}
		return "[" + strings.Join(parts, blank+",") + blank + "]"
	}
	var b bytes.Buffer
	json.NewEncoder(&b).Encode(v)
	return strings.TrimSpace(b.String())
}

// variants calls each tree that has one thing else than v: a member more, a member less, a member twice named, a value of another kind.
func variants(v any, each func(any)) {
	for _, other := range []any{nil, true, false, json.Number("0"), json.Number("1"), json.Number("-1"), "", "1", []any{}, map[string]any{}, []any{v}, map[string]any{"m": v}} {
		if reflect.TypeOf(other) != reflect.TypeOf(v) {
			each(other)
		}
	}
	switch x := v.(type) {
	case map[string]any:
		for name, item := range x {
			less := maps.Clone(x)
			delete(less, name)
			each(less)
			less[strings.ToUpper(name)] = item
			each(less)
			variants(item, func(other any) {
				changed := maps.Clone(x)
				changed[name] = other
				each(changed)
			})
		}
		for _, name := range []string{"", "x", "client", "from", "cookie", "last", "top", "list", "id", "m", "kind", "issue", "name", "text", "type"} {
			if _, there := x[name]; !there {
				for _, item := range []any{nil, json.Number("0"), json.Number("1"), "", "c1", []any{}} {
					more := maps.Clone(x)
					more[name] = item
					each(more)
				}
			}
		}
	case []any:
		for i, item := range x {
			variants(item, func(other any) {
				changed := slices.Clone(x)
				changed[i] = other
				each(changed)
			})
		}
	}
}

// Of a value that is right, any one thing changed is refused; the order of members and blanks is not.
func TestP13_2Trees(t *testing.T) {
	r := rand.New(rand.NewSource(13))
	for _, m := range good() {
		s, _ := msg.Write(m)
		v := decoded(t, s)
		for range 5 {
			text := shuffled(r, v)
			if got, e := msg.Read(text); e != api.OK || !same(got, m) {
				t.Fatalf("Read(%s) is %v, error %d", text, got, e)
			}
		}
		if len(s) > 2000 {
			continue
		}
		variants(v, func(other any) { wantRefused(t, shuffled(r, other)) })
	}
}

func TestP13_1Trees(t *testing.T) {
	r := rand.New(rand.NewSource(131))
	for i, m := range mutations() {
		x := api.Logged{Client: "c1", ID: i + 1, M: m}
		s, _ := msg.Put(x)
		v := decoded(t, s)
		for range 5 {
			if got, e := msg.Get(shuffled(r, v)); e != api.OK || got != x {
				t.Fatalf("Get of %v is %v, error %d", x, got, e)
			}
		}
		if len(s) > 2000 {
			continue
		}
		variants(v, func(other any) { wantRefused(t, shuffled(r, other)) })
	}
}

// may is the document's table, read once more.
func may(m api.Msg) bool {
	version := func(n int) bool { return n >= 0 && n <= 1<<40 }
	clientOK := func(s string) bool { _, e := msg.Put(logged(s, 1)); return e == api.OK }
	for _, x := range m.List {
		if _, e := msg.Put(x); e != api.OK {
			return false
		}
	}
	bare := m
	switch m.Kind {
	case api.MPush:
		bare.Client, bare.List = "", nil
		for i, x := range m.List {
			if x.Client != m.Client || i > 0 && x.ID-1 != m.List[i-1].ID {
				return false
			}
		}
		if !clientOK(m.Client) || len(m.List) == 0 || len(m.List) > 8 {
			return false
		}
	case api.MPushed:
		bare.Last, bare.Top = 0, 0
		if m.Last < 0 || !version(m.Top) {
			return false
		}
	case api.MPull:
		bare.Client, bare.Cookie = "", 0
		if !clientOK(m.Client) || !version(m.Cookie) {
			return false
		}
	case api.MPatch:
		bare.From, bare.List, bare.Cookie, bare.Top, bare.Last = 0, nil, 0, 0, 0
		if !version(m.From) || len(m.List) > 8 || m.Cookie != m.From+len(m.List) || m.Top < m.Cookie || !version(m.Top) || m.Last < 0 {
			return false
		}
	case api.MPoke:
		bare.Top = 0
		if !version(m.Top) {
			return false
		}
	default:
		return false
	}
	return same(bare, api.Msg{Kind: m.Kind})
}

func TestP13_2Oracle(t *testing.T) {
	r := rand.New(rand.NewSource(2))
	numbers := []int{0, 0, 0, 1, 2, 3, 8, 9, -1, 1 << 40, 1<<40 - 1, 1<<40 + 1, 1<<63 - 1, -1 << 63}
	number := func() int { return numbers[r.Intn(len(numbers))] }
	seen := map[int]int{}
	for range 20000 {
		m := good()[r.Intn(len(good()))]
		m.List = slices.Clone(m.List)
		for range r.Intn(3) {
			switch r.Intn(9) {
			case 0:
				m.Kind = r.Intn(7)
			case 1:
				m.Client = []string{"", "c1", "c2", "c 1", longName}[r.Intn(5)]
			case 2:
				m.From = number()
			case 3:
				m.Cookie = number()
			case 4:
				m.Last = number()
			case 5:
				m.Top = number()
			case 6:
				m.List = append(m.List, logged([]string{"c1", "c2", "c 1"}[r.Intn(3)], 1+r.Intn(3)))
			case 7:
				m.List = m.List[:r.Intn(len(m.List)+1)]
			case 8:
				if len(m.List) > 0 {
					m.List[r.Intn(len(m.List))].ID += r.Intn(3) - 1
				}
			}
		}
		want := api.ErrMsg
		if may(m) {
			want = api.OK
			seen[m.Kind]++
		}
		if e := msg.Check(m); e != want {
			t.Fatalf("Check(%v) is %d, want %d", m, e, want)
		}
		s, e := msg.Write(m)
		if e != want {
			t.Fatalf("Write(%v) has error %d, want %d", m, e, want)
		}
		if back, e := msg.Read(s); e != want || e == api.OK && !same(back, m) {
			t.Fatalf("%v: read again %v, error %d", m, back, e)
		}
	}
	for kind := api.MPush; kind <= api.MPoke; kind++ {
		if seen[kind] < 300 {
			t.Errorf("kind %d came %d times", kind, seen[kind])
		}
	}
}
