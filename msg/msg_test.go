package msg_test

import (
	"math"
	"reflect"
	"strings"
	"testing"

	"blotter/api"
	"blotter/jsonx"
	"blotter/msg"
)

const top40 = 1 << 40

var (
	longName = strings.Repeat("n", api.MaxName)
	tooLong  = strings.Repeat("n", api.MaxName+1)
)

func create(issue, title string) api.Mutation {
	return api.Mutation{Kind: api.KCreate, Issue: issue, Text: title}
}

func logged(client string, id int) api.Logged {
	return api.Logged{Client: client, ID: id, M: create("a", "t")}
}

// row is a client's mutations with the IDs from first on.
func row(client string, first, n int) []api.Logged {
	var l []api.Logged
	for i := range n {
		l = append(l, logged(client, first+i))
	}
	return l
}

// mutations has one of each kind.
func mutations() []api.Mutation {
	return []api.Mutation{
		create("a", "t"), {Kind: api.KTitle, Issue: longName, Text: "a \"b\" \\c\n"}, {Kind: api.KStatus, Issue: "a", Text: "closed"},
		{Kind: api.KAssign, Issue: "a", Name: "x"}, {Kind: api.KAssign, Issue: "a"}, {Kind: api.KComment, Issue: "a", Name: "c", Text: "é😀\x7f"},
		{Kind: api.KEdit, Issue: "a", Name: "c", Text: strings.Repeat("\x01", api.MaxText)}, {Kind: api.KUncomment, Issue: "a", Name: longName},
		{Kind: api.KLabel, Issue: ".", Name: "-_"}, {Kind: api.KUnlabel, Issue: "A", Name: "0"}, {Kind: api.KDelete, Issue: "a"},
	}
}

// good is messages that may be, with the edges of each kind.
func good() []api.Msg {
	var all []api.Logged
	for i, m := range mutations() {
		all = append(all, api.Logged{Client: "c1", ID: math.MaxInt - len(mutations()) + i, M: m})
	}
	return []api.Msg{
		{Kind: api.MPush, Client: "c1", List: row("c1", 1, 1)},
		{Kind: api.MPush, Client: longName, List: row(longName, 7, api.MaxBatch)},
		{Kind: api.MPush, Client: "c1", List: row("c1", math.MaxInt-1, 2)},
		{Kind: api.MPush, Client: "c1", List: all[:api.MaxBatch]},
		{Kind: api.MPush, Client: "c1", List: all[api.MaxBatch:]},
		{Kind: api.MPushed}, {Kind: api.MPushed, Last: 1, Top: 2}, {Kind: api.MPushed, Last: math.MaxInt, Top: top40},
		{Kind: api.MPull, Client: "c1"}, {Kind: api.MPull, Client: longName, Cookie: top40},
		{Kind: api.MPatch}, {Kind: api.MPatch, From: top40, Cookie: top40, Last: math.MaxInt, Top: top40},
		{Kind: api.MPatch, From: 3, Cookie: 3, Top: 9},
		{Kind: api.MPatch, Cookie: 1, Last: 1, Top: 2, List: row("c1", 1, 1)},
		{Kind: api.MPatch, From: top40 - 8, Cookie: top40, Top: top40, List: all[:api.MaxBatch]},
		{Kind: api.MPatch, From: 5, Cookie: 8, Top: 8, List: []api.Logged{logged("b", 9), logged("a", 4), logged("b", 9)}},
		{Kind: api.MPoke}, {Kind: api.MPoke, Top: 3}, {Kind: api.MPoke, Top: top40},
	}
}

func same(a, b api.Msg) bool {
	return a.Kind == b.Kind && len(a.List) == len(b.List) && (len(a.List) == 0 || reflect.DeepEqual(a.List, b.List)) &&
		reflect.DeepEqual([]any{a.Client, a.From, a.Cookie, a.Last, a.Top}, []any{b.Client, b.From, b.Cookie, b.Last, b.Top})
}

// wantRefused holds that a text tells neither a message nor a mutation.
func wantRefused(t *testing.T, s string) {
	t.Helper()
	if m, e := msg.Read(s); e != api.ErrMsg || !reflect.DeepEqual(m, api.Msg{}) {
		t.Errorf("Read(%.200q) is %v, error %d", s, m, e)
	}
	if x, e := msg.Get(s); e != api.ErrMsg || x != (api.Logged{}) {
		t.Errorf("Get(%.200q) is %v, error %d", s, x, e)
	}
}

// The document's examples.
func TestP13Examples(t *testing.T) {
	for _, x := range []struct {
		m api.Msg
		s string
	}{
		{api.Msg{Kind: api.MPoke, Top: 3}, `{"top":3,"type":"poke"}`},
		{api.Msg{Kind: api.MPull, Client: "c1"}, `{"client":"c1","cookie":0,"type":"pull"}`},
		{api.Msg{Kind: api.MPush, Client: "c1", List: row("c1", 1, 1)}, `{"client":"c1","list":[{"id":1,"m":{"issue":"a","kind":1,"name":"","text":"t"}}],"type":"push"}`},
		{api.Msg{Kind: api.MPushed, Last: 4, Top: 9}, `{"last":4,"top":9,"type":"pushed"}`},
		{api.Msg{Kind: api.MPatch, From: 6, Cookie: 7, Last: 2, Top: 9, List: row("c2", 5, 1)}, `{"cookie":7,"from":6,"last":2,"list":[{"client":"c2","id":5,"m":{"issue":"a","kind":1,"name":"","text":"t"}}],"top":9,"type":"patch"}`},
		{api.Msg{Kind: api.MPatch, Last: 2, Top: 9}, `{"cookie":0,"from":0,"last":2,"list":[],"top":9,"type":"patch"}`},
	} {
		if s, e := msg.Write(x.m); s != x.s || e != api.OK {
			t.Errorf("Write(%v) is %q, error %d", x.m, s, e)
		}
		if m, e := msg.Read(x.s); !same(m, x.m) || e != api.OK {
			t.Errorf("Read(%q) is %v, error %d", x.s, m, e)
		}
	}
	wantRefused(t, `{"client":"c1","list":[{"id":0,"m":{"issue":"a","kind":1,"name":"","text":"t"}}],"type":"push"}`)
	wantRefused(t, `{"client":"c1","list":[{"id":1,"m":{"issue":"a","kind":1,"name":"","text":"t"}}],"type":"push","x":1}`)
}

func TestP13_1Put(t *testing.T) {
	for _, x := range []struct {
		x api.Logged
		s string
	}{
		{logged("c1", 1), `{"client":"c1","id":1,"m":{"issue":"a","kind":1,"name":"","text":"t"}}`},
		{api.Logged{Client: longName, ID: math.MaxInt, M: api.Mutation{Kind: api.KComment, Issue: "A.", Name: "-_9", Text: "\"\\\n é"}}, `{"client":"` + longName + `","id":9223372036854775807,"m":{"issue":"A.","kind":5,"name":"-_9","text":"\"\\\u000a é"}}`},
		{api.Logged{Client: "c", ID: 2, M: api.Mutation{Kind: api.KDelete, Issue: "i"}}, `{"client":"c","id":2,"m":{"issue":"i","kind":10,"name":"","text":""}}`},
	} {
		if s, e := msg.Put(x.x); s != x.s || e != api.OK {
			t.Errorf("Put(%v) is %q, error %d", x.x, s, e)
		}
		if got, e := msg.Get(x.s); got != x.x || e != api.OK {
			t.Errorf("Get(%q) is %v, error %d", x.s, got, e)
		}
	}
}

// untold is logged mutations that may not be told.
func untold() []api.Logged {
	return []api.Logged{
		{}, {Client: "c1", ID: 1}, {ID: 1, M: create("a", "t")},
		logged("", 1), logged("c 1", 1), logged("é", 1), logged("\xff", 1), logged(tooLong, 1), logged("c/1", 1),
		logged("c1", 0), logged("c1", -1), logged("c1", math.MinInt),
		{Client: "c1", ID: 1, M: create("", "t")}, {Client: "c1", ID: 1, M: create(tooLong, "t")}, {Client: "c1", ID: 1, M: create("a", "")},
		{Client: "c1", ID: 1, M: create("a", strings.Repeat("t", api.MaxText+1))}, {Client: "c1", ID: 1, M: create("a", "\xff")},
		{Client: "c1", ID: 1, M: api.Mutation{Kind: 0, Issue: "a"}}, {Client: "c1", ID: 1, M: api.Mutation{Kind: 11, Issue: "a"}}, {Client: "c1", ID: 1, M: api.Mutation{Kind: -1, Issue: "a"}},
		{Client: "c1", ID: 1, M: api.Mutation{Kind: api.KCreate, Issue: "a", Name: "n", Text: "t"}}, {Client: "c1", ID: 1, M: api.Mutation{Kind: api.KLabel, Issue: "a"}},
		{Client: "c1", ID: 1, M: api.Mutation{Kind: api.KDelete, Issue: "a", Text: "t"}}, {Client: "c1", ID: 1, M: api.Mutation{Kind: api.KStatus, Issue: "a", Text: "gone"}},
	}
}

func TestP13_1Untold(t *testing.T) {
	for _, x := range untold() {
		if s, e := msg.Put(x); s != "" || e != api.ErrMsg {
			t.Errorf("Put(%v) is %q, error %d", x, s, e)
		}
		for _, m := range []api.Msg{
			{Kind: api.MPush, Client: x.Client, List: []api.Logged{x}},
			{Kind: api.MPush, Client: "c1", List: []api.Logged{logged("c1", x.ID-1), x}},
			{Kind: api.MPatch, Cookie: 1, Top: 1, List: []api.Logged{x}},
			{Kind: api.MPatch, Cookie: 2, Top: 2, List: []api.Logged{logged("c1", 1), x}},
		} {
			wantNone(t, m)
		}
	}
}

// wantNone holds that a message may not be.
func wantNone(t *testing.T, m api.Msg) {
	t.Helper()
	if e := msg.Check(m); e != api.ErrMsg {
		t.Errorf("Check(%v) is %d", m, e)
	}
	if s, e := msg.Write(m); s != "" || e != api.ErrMsg {
		t.Errorf("Write(%v) is %q, error %d", m, s, e)
	}
}

func TestP13_2Check(t *testing.T) {
	for _, m := range good() {
		if e := msg.Check(m); e != api.OK {
			t.Errorf("Check(%v) is %d", m, e)
		}
	}
	for _, kind := range []int{0, 6, -1, math.MaxInt, math.MinInt} {
		wantNone(t, api.Msg{Kind: kind})
		wantNone(t, api.Msg{Kind: kind, Top: 3})
		wantNone(t, api.Msg{Kind: kind, Client: "c1", List: row("c1", 1, 1)})
	}
}

func TestP13_2Wrong(t *testing.T) {
	swapped := row("c1", 1, 3)
	swapped[1], swapped[2] = swapped[2], swapped[1]
	for _, m := range []api.Msg{
		{Kind: api.MPush}, {Kind: api.MPush, Client: "c1"}, {Kind: api.MPush, List: row("c1", 1, 1)}, {Kind: api.MPush, Client: "c2", List: row("c1", 1, 1)},
		{Kind: api.MPush, Client: "c1", List: row("c1", 1, api.MaxBatch+1)}, {Kind: api.MPush, Client: "c1", List: swapped},
		{Kind: api.MPush, Client: "c1", List: append(row("c1", 1, 2), logged("c1", 4))}, {Kind: api.MPush, Client: "c1", List: append(row("c1", 1, 2), logged("c1", 2))},
		{Kind: api.MPush, Client: "c1", List: append(row("c1", 1, 2), logged("c2", 3))}, {Kind: api.MPush, Client: "c1", List: row("c1", 0, 2)}, {Kind: api.MPush, Client: "c1", List: row("c1", math.MaxInt, 2)},
		{Kind: api.MPush, Client: tooLong, List: row(tooLong, 1, 1)}, {Kind: api.MPush, Client: "c 1", List: row("c 1", 1, 1)},
		{Kind: api.MPushed, Last: -1}, {Kind: api.MPushed, Top: -1}, {Kind: api.MPushed, Top: top40 + 1}, {Kind: api.MPushed, Last: math.MinInt}, {Kind: api.MPushed, Top: math.MinInt}, {Kind: api.MPushed, Top: math.MaxInt},
		{Kind: api.MPull}, {Kind: api.MPull, Client: "c 1"}, {Kind: api.MPull, Client: tooLong}, {Kind: api.MPull, Client: "c1", Cookie: -1}, {Kind: api.MPull, Client: "c1", Cookie: top40 + 1}, {Kind: api.MPull, Client: "c1", Cookie: math.MinInt},
		{Kind: api.MPatch, From: -1, Cookie: -1}, {Kind: api.MPatch, From: -1, Cookie: 0, List: row("c1", 1, 1)}, {Kind: api.MPatch, Cookie: 1, Top: 1}, {Kind: api.MPatch, From: 1, Top: 1}, {Kind: api.MPatch, Top: 1, List: row("c1", 1, 1)},
		{Kind: api.MPatch, Cookie: 2, Top: 2, List: row("c1", 1, 1)}, {Kind: api.MPatch, From: 2, Cookie: 2, Top: 1}, {Kind: api.MPatch, Cookie: 1, List: row("c1", 1, 1)}, {Kind: api.MPatch, Top: top40 + 1}, {Kind: api.MPatch, Top: -1},
		{Kind: api.MPatch, Last: -1}, {Kind: api.MPatch, Cookie: api.MaxBatch + 1, Top: 99, List: row("c1", 1, api.MaxBatch+1)}, {Kind: api.MPatch, From: top40 + 1, Cookie: top40 + 1, Top: top40}, {Kind: api.MPatch, From: top40, Cookie: top40 + 1, Top: top40 + 1, List: row("c1", 1, 1)},
		{Kind: api.MPatch, From: math.MaxInt, Cookie: math.MinInt, List: row("c1", 1, 1)}, {Kind: api.MPatch, From: math.MaxInt, Cookie: math.MinInt + 1, Top: 5, List: row("c1", 1, 2)}, {Kind: api.MPatch, From: math.MinInt, Cookie: math.MinInt}, {Kind: api.MPatch, From: math.MaxInt, Cookie: math.MaxInt, Top: math.MaxInt},
		{Kind: api.MPoke, Top: -1}, {Kind: api.MPoke, Top: top40 + 1}, {Kind: api.MPoke, Top: math.MaxInt}, {Kind: api.MPoke, Top: math.MinInt},
	} {
		wantNone(t, m)
	}
}

// A field that its kind does not name is zero.
func TestP13_2OtherFields(t *testing.T) {
	named := map[int]string{api.MPush: "Client List", api.MPushed: "Last Top", api.MPull: "Client Cookie", api.MPatch: "From List Cookie Top Last", api.MPoke: "Top"}
	for _, m := range good() {
		for _, field := range []string{"Client", "From", "Cookie", "Last", "Top", "List"} {
			if strings.Contains(" "+named[m.Kind]+" ", " "+field+" ") {
				continue
			}
			for _, n := range []int{1, -1, math.MinInt} {
				x := m
				switch v := reflect.ValueOf(&x).Elem().FieldByName(field); field {
				case "Client":
					v.SetString("c1")
				case "List":
					v.Set(reflect.ValueOf(row("c1", 1, 1)))
				default:
					v.SetInt(int64(n))
				}
				wantNone(t, x)
			}
		}
		m.List = append([]api.Logged{}, m.List...)
		if e := msg.Check(m); e != api.OK {
			t.Errorf("with an empty list: %v, error %d", m, e)
		}
	}
}

func TestP13_2NoJson(t *testing.T) {
	for _, s := range []string{"", " ", "null", "true", "1", `"poke"`, "[]", "{}", `{"top":3,"type":"poke"`, `{"top":3,"type":"poke"}}`, `{"top":3,"top":3,"type":"poke"}`, `{"top":3.0,"type":"poke"}`, `{"top":03,"type":"poke"}`, `{"top":1e0,"type":"poke"}`, `{"top":"3","type":"poke"}`, `{"top":3,"type":"Poke"}`, `{"top":3,"type":""}`, `{"top":3,"type":5}`, `{"type":"poke"}`, `{"top":3}`, `{"top":true,"type":"poke"}`, `[{"top":3,"type":"poke"}]`, "{\"top\":3,\"type\":\"poke\xff\"}", `{"top":9223372036854775808,"type":"poke"}`, strings.Repeat(" ", api.MaxJson) + `{"top":3,"type":"poke"}`, strings.Repeat("[", 99), "\x00"} {
		wantRefused(t, s)
	}
	// Blanks, escapes and the order of members are JSON's own business.
	for _, s := range []string{` { "type" : "poke" , "top" : 3 } `, "{\"\\u0074op\":3,\"type\":\"p\\u006fke\"}\n", strings.Repeat(" ", api.MaxJson-23) + `{"top":3,"type":"poke"}`} {
		if m, e := msg.Read(s); e != api.OK || !same(m, api.Msg{Kind: api.MPoke, Top: 3}) {
			t.Errorf("%.60q: %v, error %d", s, m, e)
		}
	}
	if m, e := msg.Read(`{"top":-0,"type":"poke"}`); e != api.OK || !same(m, api.Msg{Kind: api.MPoke}) {
		t.Errorf("%v, error %d", m, e)
	}
}

func TestP13_3ThereAndBack(t *testing.T) {
	for i, m := range mutations() {
		x := api.Logged{Client: "c.1", ID: i + 1, M: m}
		s, e := msg.Put(x)
		if got, e2 := msg.Get(s); e != api.OK || e2 != api.OK || got != x {
			t.Errorf("%v: %v, errors %d, %d", x, got, e, e2)
		}
	}
	for _, m := range good() {
		s, e := msg.Write(m)
		if got, e2 := msg.Read(s); e != api.OK || e2 != api.OK || !same(got, m) {
			t.Errorf("%v: %v, errors %d, %d", m, got, e, e2)
		}
	}
}

// The longest there are: each byte of a text becomes six, all names and numbers are as long as can be.
func TestP13_5TheyFit(t *testing.T) {
	worst := api.Logged{Client: longName, ID: math.MaxInt - api.MaxBatch, M: api.Mutation{Kind: api.KComment, Issue: longName, Name: longName, Text: strings.Repeat("\x1f", api.MaxText)}}
	if s, e := msg.Put(worst); e != api.OK || len(s) < 6*api.MaxText || len(s) > api.MaxValue {
		t.Errorf("%d bytes, error %d", len(s), e)
	}
	var l []api.Logged
	for i := range api.MaxBatch {
		worst.ID = math.MaxInt - api.MaxBatch + i
		l = append(l, worst)
	}
	for _, m := range []api.Msg{{Kind: api.MPush, Client: longName, List: l}, {Kind: api.MPatch, From: top40 - api.MaxBatch, Cookie: top40, Last: math.MaxInt, Top: top40, List: l}} {
		if s, e := msg.Write(m); e != api.OK || len(s) < 6*api.MaxBatch*api.MaxText || len(s) > api.MaxBody {
			t.Errorf("%d bytes, error %d", len(s), e)
		}
	}
}

// Neither is a list that is handed in changed, its spare room too, nor does an answer hang on it.
func TestP13_2Memory(t *testing.T) {
	room := row("c1", 1, 8)
	m := api.Msg{Kind: api.MPush, Client: "c1", List: room[:3]}
	s, _ := msg.Write(m)
	msg.Check(m)
	if !reflect.DeepEqual(room, row("c1", 1, 8)) {
		t.Error("what was handed in changed")
	}
	a, _ := msg.Read(s)
	b, _ := msg.Read(s)
	clear(a.List[:cap(a.List)])
	clear(room)
	if !same(b, api.Msg{Kind: api.MPush, Client: "c1", List: row("c1", 1, 3)}) {
		t.Errorf("an answer changed: %v", b)
	}
}

// What is read, written again, is the same value; what is refused is zero.
func FuzzP13_4Read(f *testing.F) {
	for _, m := range good() {
		s, _ := msg.Write(m)
		f.Add(s)
	}
	for i, m := range mutations() {
		s, _ := msg.Put(api.Logged{Client: "c", ID: i + 1, M: m})
		f.Add(" " + s)
	}
	f.Fuzz(func(t *testing.T, s string) {
		v, _, _ := jsonx.Parse(s)
		if m, e := msg.Read(s); e == api.OK {
			again, e := msg.Write(m)
			w, _, _ := jsonx.Parse(again)
			if e != api.OK || !jsonx.Same(v, w) {
				t.Errorf("%q: %v, again %q", s, m, again)
			}
		} else if e != api.ErrMsg || !reflect.DeepEqual(m, api.Msg{}) {
			t.Errorf("%q: %v, error %d", s, m, e)
		}
		if x, e := msg.Get(s); e == api.OK {
			again, e := msg.Put(x)
			w, _, _ := jsonx.Parse(again)
			if e != api.OK || !jsonx.Same(v, w) {
				t.Errorf("%q: %v, again %q", s, x, again)
			}
		} else if e != api.ErrMsg || x != (api.Logged{}) {
			t.Errorf("%q: %v, error %d", s, x, e)
		}
	})
}
