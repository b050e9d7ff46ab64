package jsonx_test

import (
	"math"
	"math/rand"
	"reflect"
	"slices"
	"strconv"
	"strings"
	"testing"

	"blotter/api"
	"blotter/jsonx"
)

func null() api.Json { return api.Json{} }

func truth(is bool) api.Json {
	if is {
		return api.Json{Kind: api.JBool, Int: 1}
	}
	return api.Json{Kind: api.JBool}
}

func number(n int64) api.Json { return api.Json{Kind: api.JInt, Int: n} }

func text(s string) api.Json { return api.Json{Kind: api.JText, Text: s} }

func list(items ...api.Json) api.Json { return api.Json{Kind: api.JList, Items: items} }

type member struct {
	name string
	item api.Json
}

func object(members ...member) api.Json {
	v := api.Json{Kind: api.JObject}
	for _, m := range members {
		v.Names = append(v.Names, m.name)
		v.Items = append(v.Items, m.item)
	}
	return v
}

// nested is a value in so many lists and objects, by turns.
func nested(v api.Json, deep int) api.Json {
	for i := range deep {
		if i%2 == 0 {
			v = list(v)
		} else {
			v = object(member{"a", v})
		}
	}
	return v
}

// plain is a value whose empty lists are nil, so that two can be held against each other.
func plain(v api.Json) api.Json {
	v.Names = slices.Clone(v.Names)
	v.Items = slices.Clone(v.Items)
	if len(v.Names) == 0 {
		v.Names = nil
	}
	if len(v.Items) == 0 {
		v.Items = nil
	}
	for i := range v.Items {
		v.Items[i] = plain(v.Items[i])
	}
	return v
}

func equal(a, b api.Json) bool { return reflect.DeepEqual(plain(a), plain(b)) }

// sorted is a value with the members of each object by rising names.
func sorted(v api.Json) api.Json {
	v = plain(v)
	if v.Kind == api.JObject {
		order := make([]int, len(v.Names))
		for i := range order {
			order[i] = i
		}
		slices.SortFunc(order, func(i, j int) int { return strings.Compare(v.Names[i], v.Names[j]) })
		names, items := v.Names, v.Items
		v.Names, v.Items = nil, nil
		for _, i := range order {
			v.Names = append(v.Names, names[i])
			v.Items = append(v.Items, items[i])
		}
	}
	for i := range v.Items {
		v.Items[i] = sorted(v.Items[i])
	}
	return v
}

// shuffled is a value with the members of each object in another order.
func shuffled(r *rand.Rand, v api.Json) api.Json {
	v = plain(v)
	if v.Kind == api.JObject {
		r.Shuffle(len(v.Names), func(i, j int) {
			v.Names[i], v.Names[j] = v.Names[j], v.Names[i]
			v.Items[i], v.Items[j] = v.Items[j], v.Items[i]
		})
	}
	for i := range v.Items {
		v.Items[i] = shuffled(r, v.Items[i])
	}
	return v
}

var someTexts = []string{"", "a", "b", "ab", "A", "\"", "\\", "/", "\x00", "\x1f", "\n", " ", "\x7f", "é", "\u0800", "\ud7ff", "\ue000", "\uffff", "\U00010000", "\U0010ffff", "\ufffd", "</script>", "\u2028"}

var someNumbers = []int64{0, 1, -1, 9, 10, -10, 123456789, math.MaxInt64, math.MinInt64, math.MaxInt64 - 1, math.MinInt64 + 1, 1 << 53}

// random is some value that Check takes.
func random(r *rand.Rand, deep int) api.Json {
	kind := r.Intn(7)
	if deep == 0 {
		kind = r.Intn(4)
	}
	switch kind {
	case 0:
		return null()
	case 1:
		return truth(r.Intn(2) == 0)
	case 2:
		return number(someNumbers[r.Intn(len(someNumbers))])
	case 3:
		return text(someTexts[r.Intn(len(someTexts))] + someTexts[r.Intn(len(someTexts))])
	case 4:
		v := list()
		for range r.Intn(4) {
			v.Items = append(v.Items, random(r, deep-1))
		}
		return v
	}
	v := object()
	for _, i := range r.Perm(len(someTexts))[:r.Intn(5)] {
		v.Names = append(v.Names, someTexts[i])
		v.Items = append(v.Items, random(r, deep-1))
	}
	return v
}

func TestP4_1Taken(t *testing.T) {
	for i, v := range []api.Json{
		null(), truth(true), truth(false), number(0), number(math.MinInt64), number(math.MaxInt64),
		text(""), text("aé\U0010ffff\x00"), list(), list(null(), null()), object(), object(member{"", null()}),
		object(member{"b", null()}, member{"a", null()}),
		{Names: []string{}, Items: []api.Json{}},
		{Kind: api.JText, Names: []string{}, Items: []api.Json{}},
		{Kind: api.JObject, Names: []string{}},
		nested(null(), 16), nested(number(5), 16), nested(list(), 15), nested(object(), 15),
		list(nested(null(), 15), nested(null(), 15)),
	} {
		if e := jsonx.Check(v); e != api.OK {
			t.Errorf("value %d: error %d", i, e)
		}
	}
}

func TestP4_1Refused(t *testing.T) {
	broken := "a\xff"
	one, name := []api.Json{{}}, []string{"a"}
	twins := object(member{"a", null()}, member{"b", null()}, member{"a", null()})
	for i, x := range []struct {
		v api.Json
		e api.Errno
	}{
		{api.Json{Kind: -1}, api.ErrArg}, {api.Json{Kind: 6}, api.ErrArg}, {api.Json{Kind: math.MinInt}, api.ErrArg}, {api.Json{Kind: math.MaxInt}, api.ErrArg},
		{api.Json{Int: 1}, api.ErrArg}, {api.Json{Text: "a"}, api.ErrArg}, {api.Json{Names: name}, api.ErrArg}, {api.Json{Items: one}, api.ErrArg}, {api.Json{Names: name, Items: one}, api.ErrArg},
		{api.Json{Kind: 1, Int: 2}, api.ErrArg}, {api.Json{Kind: 1, Int: -1}, api.ErrArg}, {api.Json{Kind: 1, Int: math.MinInt64}, api.ErrArg}, {api.Json{Kind: 1, Text: "a"}, api.ErrArg}, {api.Json{Kind: 1, Names: name}, api.ErrArg}, {api.Json{Kind: 1, Items: one}, api.ErrArg},
		{api.Json{Kind: 2, Text: "a"}, api.ErrArg}, {api.Json{Kind: 2, Names: name}, api.ErrArg}, {api.Json{Kind: 2, Items: one}, api.ErrArg},
		{api.Json{Kind: 3, Int: 1}, api.ErrArg}, {api.Json{Kind: 3, Names: name}, api.ErrArg}, {api.Json{Kind: 3, Items: one}, api.ErrArg}, {text(broken), api.ErrArg}, {text("\xed\xa0\x80"), api.ErrArg}, {text("\xc0\x80"), api.ErrArg},
		{api.Json{Kind: 4, Int: 1}, api.ErrArg}, {api.Json{Kind: 4, Text: "a"}, api.ErrArg}, {api.Json{Kind: 4, Names: name, Items: one}, api.ErrArg},
		{api.Json{Kind: 5, Int: 1}, api.ErrArg}, {api.Json{Kind: 5, Text: "a"}, api.ErrArg}, {api.Json{Kind: 5, Names: name}, api.ErrArg}, {api.Json{Kind: 5, Items: one}, api.ErrArg}, {api.Json{Kind: 5, Names: []string{"a", "b"}, Items: one}, api.ErrArg},
		{object(member{broken, null()}), api.ErrArg}, {object(member{"a", null()}, member{broken, null()}), api.ErrArg},
		{twins, api.ErrTwice}, {object(member{"", null()}, member{"", null()}), api.ErrTwice}, {list(null(), twins), api.ErrTwice},
		{nested(null(), 17), api.ErrDeep}, {nested(null(), 18), api.ErrDeep}, {nested(list(), 16), api.ErrDeep}, {nested(object(), 16), api.ErrDeep}, {nested(null(), 1<<16), api.ErrDeep},
		{list(null(), nested(null(), 16)), api.ErrDeep},
	} {
		if e := jsonx.Check(x.v); e != x.e {
			t.Errorf("value %d: error %d, want %d", i, e, x.e)
		}
		if s, e := jsonx.Print(x.v); s != "" || e != x.e {
			t.Errorf("value %d: printed %q, error %d, want %d", i, s, e, x.e)
		}
	}
}

// The first error is told: of one value ErrDeep, ErrArg, ErrTwice; of several the first one's.
func TestP4_1Order(t *testing.T) {
	wrong := api.Json{Kind: 9}
	twins := object(member{"a", null()}, member{"a", null()})
	wrongTwins := twins
	wrongTwins.Text = "x"
	wrongList := list()
	wrongList.Int = 7
	for i, x := range []struct {
		v api.Json
		e api.Errno
	}{
		{wrongTwins, api.ErrArg},
		{object(member{"a", wrong}, member{"a", null()}), api.ErrTwice},
		{list(twins, wrong), api.ErrTwice},
		{list(wrong, twins), api.ErrArg},
		{list(list(list(twins)), wrong), api.ErrTwice},
		{object(member{"b", wrong}, member{"a", twins}), api.ErrArg},
		{list(nested(null(), 16), wrong), api.ErrDeep},
		{list(wrong, nested(null(), 16)), api.ErrArg},
		{nested(wrongList, 16), api.ErrDeep},
		{nested(twins, 16), api.ErrDeep},
		{nested(wrong, 16), api.ErrArg},
		{nested(wrong, 15), api.ErrArg},
		{nested(twins, 15), api.ErrTwice},
		{nested(wrong, 17), api.ErrDeep},
		{api.Json{Kind: 9, Items: []api.Json{nested(null(), 30)}}, api.ErrArg},
		{api.Json{Kind: 5, Names: []string{"a", "a"}, Items: []api.Json{wrong}}, api.ErrArg},
		{api.Json{Kind: 5, Names: []string{"\xff", "\xff"}, Items: make([]api.Json, 2)}, api.ErrArg},
	} {
		if e := jsonx.Check(x.v); e != x.e {
			t.Errorf("value %d: error %d, want %d", i, e, x.e)
		}
	}
}

// A value may be made by hand so that it stands in itself.
func TestP4_1InItself(t *testing.T) {
	v := list(null(), null())
	v.Items[1] = v
	if e := jsonx.Check(v); e != api.ErrDeep {
		t.Errorf("error %d", e)
	}
	if s, e := jsonx.Print(v); s != "" || e != api.ErrDeep {
		t.Errorf("printed %q, error %d", s, e)
	}
	if jsonx.Same(v, v) {
		t.Error("the same")
	}
}

func TestP4_2Print(t *testing.T) {
	for _, x := range []struct {
		v    api.Json
		want string
	}{
		{null(), "null"}, {truth(true), "true"}, {truth(false), "false"},
		{number(0), "0"}, {number(-1), "-1"}, {number(120), "120"}, {number(math.MaxInt64), "9223372036854775807"}, {number(math.MinInt64), "-9223372036854775808"},
		{text(""), `""`}, {text(`a"b\c/d`), `"a\"b\\c/d"`}, {text("\x00\x01\t\n\r\b\f\x1b\x1f \x7f"), `"\u0000\u0001\u0009\u000a\u000d\u0008\u000c\u001b\u001f ` + "\x7f\""},
		{text("é\u2028\U0001f600<>&"), "\"é\u2028\U0001f600<>&\""},
		{list(), "[]"}, {object(), "{}"}, {list(list(), object()), "[[],{}]"},
		{list(number(1), null(), text("a")), `[1,null,"a"]`},
		{object(member{"b", number(1)}, member{"a", list(truth(true), null())}), `{"a":[true,null],"b":1}`},
		{object(member{"é", null()}, member{"z", null()}, member{"Z", null()}, member{"", null()}, member{"za", null()}, member{"\n", null()}, member{"\uffff", null()}, member{"\U00010000", null()}),
			`{"":null,"\u000a":null,"Z":null,"z":null,"za":null,"é":null,"` + "\uffff" + `":null,"` + "\U00010000" + `":null}`},
		{object(member{"a\"", object(member{"y", null()}, member{"x", null()})}), `{"a\"":{"x":null,"y":null}}`},
		{nested(number(7), 16), strings.Repeat(`{"a":[`, 8) + "7" + strings.Repeat("]}", 8)},
	} {
		if s, e := jsonx.Print(x.v); s != x.want || e != api.OK {
			t.Errorf("printed %q, error %d, want %q", s, e, x.want)
		}
	}
}

func TestP4_2Long(t *testing.T) {
	items := make([]api.Json, 13107) // each null and a comma: 5*13107 + 1 bytes
	names := object()
	for i := range 9000 {
		names.Names = append(names.Names, strconv.Itoa(10000+i))
		names.Items = append(names.Items, null())
	}
	for i, x := range []struct {
		v    api.Json
		size int
	}{
		{text(strings.Repeat("a", api.MaxJson-2)), api.MaxJson},
		{text(strings.Repeat("a", api.MaxJson-1)), api.MaxJson + 1},
		{text(strings.Repeat("a", api.MaxJson*3)), api.MaxJson*3 + 2},
		{text(strings.Repeat(`"`, api.MaxJson/2-1)), api.MaxJson},
		{text(strings.Repeat(`"`, api.MaxJson/2-1) + "a"), api.MaxJson + 1},
		{text(strings.Repeat("\x00", 10922)), 65534},
		{text(strings.Repeat("\x00", 10922) + "aa"), 65536},
		{text(strings.Repeat("\x00", 10923)), 65540},
		{list(items...), 65536},
		{list(append(items, null())...), 65541},
		{list(list(items...)), 65538},
		{list(list(items[1:]...), number(5)), 65535},
		{list(list(items[1:]...), number(55)), 65536},
		{list(list(items[1:]...), number(555)), 65537},
		{names, 9000*13 + 1},
	} {
		s, e := jsonx.Print(x.v)
		if x.size > api.MaxJson && (s != "" || e != api.ErrLong) || x.size <= api.MaxJson && (len(s) != x.size || e != api.OK) {
			t.Errorf("value %d, which has %d bytes: %d, error %d", i, x.size, len(s), e)
		}
	}
	// Check's error comes ahead, though the text is too long before it.
	if s, e := jsonx.Print(list(text(strings.Repeat("a", api.MaxJson)), api.Json{Kind: 9})); s != "" || e != api.ErrArg {
		t.Errorf("%d bytes, error %d", len(s), e)
	}
}

func TestP4_4Get(t *testing.T) {
	v := object(member{"a", number(1)}, member{"b", list(text("x"), object(member{"c", null()}))}, member{"", truth(true)})
	for _, x := range []struct {
		v    api.Json
		name string
		want api.Json
		ok   bool
	}{
		{v, "a", number(1), true}, {v, "b", v.Items[1], true}, {v, "", truth(true), true},
		{v, "c", null(), false}, {v, "A", null(), false}, {v, "a\x00", null(), false},
		{object(), "", null(), false}, {null(), "", null(), false}, {text("a"), "a", null(), false}, {list(number(1)), "0", null(), false},
		{object(member{"a", null()}), "a", null(), true},
		{api.Json{Kind: api.JList, Names: []string{"a"}, Items: []api.Json{number(1)}}, "a", null(), false},
		{api.Json{Kind: 9, Names: []string{"a"}, Items: []api.Json{number(1)}}, "a", null(), false},
		{object(member{"a", number(1)}, member{"a", number(2)}), "a", number(1), true},
		{api.Json{Kind: api.JObject, Names: []string{"a", "b"}, Items: []api.Json{number(1)}}, "b", null(), false},
		{api.Json{Kind: api.JObject, Names: []string{"a", "b"}, Items: []api.Json{number(1)}}, "a", number(1), true},
		{api.Json{Kind: api.JObject, Names: []string{"a"}, Items: []api.Json{number(1), number(2)}}, "a", number(1), true},
		{api.Json{Kind: api.JObject, Names: []string{"a", "b", "b"}, Items: []api.Json{number(1)}}, "b", null(), false},
		{api.Json{Kind: api.JObject, Items: []api.Json{number(1)}}, "", null(), false},
		{api.Json{Kind: api.JObject, Names: []string{"\xff"}, Items: []api.Json{{Kind: 9, Int: 4, Text: "\xff"}}}, "\xff", api.Json{Kind: 9, Int: 4, Text: "\xff"}, true},
	} {
		if got, ok := jsonx.Get(x.v, x.name); ok != x.ok || !equal(got, x.want) {
			t.Errorf("Get(%v, %q): %v, %v", x.v, x.name, got, ok)
		}
	}
	deep := nested(null(), 1<<16)
	if got, ok := jsonx.Get(object(member{"a", deep}), "a"); !ok || len(got.Items) != 1 {
		t.Error("an item in which much is nested")
	}
}

func TestP4_4GetMemory(t *testing.T) {
	inner := list(number(1), number(2))
	v := object(member{"a", object(member{"x", inner}, member{"y", inner})})
	got, _ := jsonx.Get(v, "a")
	got.Names[0] = "changed"
	got.Items[0].Items[0] = number(99)
	got.Items[0].Items = append(got.Items[0].Items, number(98))
	if !equal(got.Items[1], list(number(1), number(2))) {
		t.Errorf("two lists of an answer share memory: %v", got)
	}
	got.Items[1] = null()
	if !equal(v, object(member{"a", object(member{"x", list(number(1), number(2))}, member{"y", list(number(1), number(2))})})) {
		t.Errorf("the argument has changed: %v", v)
	}
}

func TestP4_4Same(t *testing.T) {
	ab := object(member{"a", number(1)}, member{"b", list(null())})
	ba := object(member{"b", list(null())}, member{"a", number(1)})
	long := text(strings.Repeat("a", api.MaxJson))
	for i, x := range []struct {
		a, b api.Json
		same bool
	}{
		{null(), null(), true}, {null(), truth(false), false}, {truth(false), number(0), false}, {truth(true), truth(true), true}, {truth(true), truth(false), false},
		{number(5), number(5), true}, {number(5), number(-5), false}, {number(1), truth(true), false},
		{text("a"), text("a"), true}, {text("a"), text("b"), false}, {text(""), null(), false},
		{list(), list(), true}, {list(), object(), false}, {list(), null(), false}, {list(null()), list(), false}, {list(), list(null()), false},
		{list(number(1), number(2)), list(number(2), number(1)), false}, {list(number(1), number(2)), list(number(1), number(2)), true},
		{ab, ba, true}, {list(ab), list(ba), true}, {object(member{"x", ab}), object(member{"x", ba}), true},
		{ab, object(member{"a", number(1)}), false}, {object(member{"a", number(1)}), ab, false}, {ab, object(member{"a", number(2)}, member{"b", list(null())}), false},
		{ab, object(member{"a", number(1)}, member{"c", list(null())}), false}, {ab, object(member{"b", number(1)}, member{"a", list(null())}), false},
		{list(), api.Json{Kind: api.JList, Items: []api.Json{}, Names: []string{}}, true},
		{long, long, true}, {long, text(long.Text + "a"), false}, {list(long, number(1)), list(long, number(2)), false},
		{nested(null(), 16), nested(null(), 16), true}, {nested(null(), 17), nested(null(), 17), false},
		{api.Json{Kind: 9}, api.Json{Kind: 9}, false}, {text("\xff"), text("\xff"), false}, {list(api.Json{Int: 1}), list(api.Json{Int: 1}), false},
		{object(member{"a", null()}, member{"a", null()}), object(member{"a", null()}, member{"a", null()}), false},
		{null(), api.Json{Int: 1}, false}, {api.Json{Int: 1}, null(), false},
	} {
		if got := jsonx.Same(x.a, x.b); got != x.same {
			t.Errorf("pair %d: %v", i, got)
		}
	}
}

// What is handed in is as it was.
func TestP4Unchanged(t *testing.T) {
	make := func() api.Json {
		return object(member{"c", list(number(3))}, member{"a", object(member{"z", null()}, member{"y", text("t")})}, member{"b", null()})
	}
	v, w := make(), make()
	jsonx.Check(v)
	jsonx.Print(v)
	jsonx.Same(v, w)
	jsonx.Get(v, "a")
	if !reflect.DeepEqual(v, make()) || !reflect.DeepEqual(w, make()) {
		t.Errorf("changed: %v, %v", v, w)
	}
}
