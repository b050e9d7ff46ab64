package jsonx_test

import (
	"math"
	"math/rand"
	"strconv"
	"strings"
	"testing"

	"blotter/api"
	"blotter/jsonx"
)

func TestP4_3Taken(t *testing.T) {
	for _, x := range []struct {
		s    string
		want api.Json
	}{
		{"null", null()}, {"true", truth(true)}, {"false", truth(false)},
		{"0", number(0)}, {"-0", number(0)}, {"7", number(7)}, {"-7", number(-7)}, {"10", number(10)}, {"-105", number(-105)},
		{"9223372036854775807", number(math.MaxInt64)}, {"-9223372036854775808", number(math.MinInt64)}, {"-9223372036854775807", number(-math.MaxInt64)},
		{`""`, text("")}, {`"abc"`, text("abc")}, {"\" \x7f\"", text(" \x7f")},
		{`"\"\\\/\b\f\n\r\t"`, text("\"\\/\b\f\n\r\t")},
		{`"\u0000\u001f\u0041\u00e9\u20AC\uFFFF\ud7ff\ue000"`, text("\x00\x1fAé€\uffff\ud7ff\ue000")},
		{`"\ud800\udc00\uDBFF\uDFFF\uD83d\uDe00x"`, text("\U00010000\U0010ffff\U0001f600x")},
		{"\"é\u0800\uffff\U00010000\U0010ffff\u2028\"", text("é\u0800\uffff\U00010000\U0010ffff\u2028")},
		{"[]", list()}, {"[ ]", list()}, {"{}", object()}, {"{\t}", object()},
		{"[1,2]", list(number(1), number(2))}, {"[[],[[]],{}]", list(list(), list(list()), object())},
		{`{"b":1,"a":[true,null]}`, object(member{"b", number(1)}, member{"a", list(truth(true), null())})},
		{`{"":0,"\u0061":{"a":1}}`, object(member{"", number(0)}, member{"a", object(member{"a", number(1)})})},
		{`[{"a":1},{"a":1}]`, list(object(member{"a", number(1)}), object(member{"a", number(1)}))},
		{" \t\r\n{ \"a\" :\n[ 1\r,\t2 ] , \"b\" : null } \t\r\n", object(member{"a", list(number(1), number(2))}, member{"b", null()})},
		{strings.Repeat("[", 16) + strings.Repeat("]", 16), nestedLists(16)},
		{"[" + strings.Repeat("[", 15) + strings.Repeat("]", 15) + "," + strings.Repeat("[", 15) + strings.Repeat("]", 15) + "]", list(nestedLists(15), nestedLists(15))},
	} {
		if v, at, e := jsonx.Parse(x.s); at != 0 || e != api.OK || !equal(v, x.want) {
			t.Errorf("%q: %v, place %d, error %d", x.s, v, at, e)
		}
	}
}

func nestedLists(deep int) api.Json {
	v := list()
	for range deep - 1 {
		v = list(v)
	}
	return v
}

func TestP4_3Refused(t *testing.T) {
	deep := strings.Repeat(`{"a":[`, 8)
	for _, x := range []struct {
		s  string
		at int
		e  api.Errno
	}{
		{"", 0, api.ErrJson}, {"  ", 2, api.ErrJson}, {"x", 0, api.ErrJson}, {"]", 0, api.ErrJson}, {"\xef\xbb\xbf1", 0, api.ErrJson}, {"\x00", 0, api.ErrJson}, {"\v1", 0, api.ErrJson}, {"\u00a01", 0, api.ErrJson},
		{"n", 1, api.ErrJson}, {"nul", 3, api.ErrJson}, {"nulL", 3, api.ErrJson}, {"Null", 0, api.ErrJson}, {"nulll", 4, api.ErrJson}, {"tru e", 3, api.ErrJson}, {"fals", 4, api.ErrJson}, {"falsy", 4, api.ErrJson}, {"truefalse", 4, api.ErrJson},
		{"1 2", 2, api.ErrJson}, {"1,", 1, api.ErrJson}, {"[]]", 2, api.ErrJson}, {"{} x", 3, api.ErrJson}, {"1\x00", 1, api.ErrJson}, {"[]\x0b", 2, api.ErrJson},
		{"-", 1, api.ErrJson}, {"- 1", 1, api.ErrJson}, {"--1", 1, api.ErrJson}, {"+1", 0, api.ErrJson}, {"-a", 1, api.ErrJson}, {"-.5", 1, api.ErrJson}, {".5", 0, api.ErrJson}, {"-e", 1, api.ErrJson},
		{"01", 1, api.ErrJson}, {"00", 1, api.ErrJson}, {"-01", 2, api.ErrJson}, {"-00", 2, api.ErrJson}, {"1a", 1, api.ErrJson}, {"1-", 1, api.ErrJson}, {"0x1", 1, api.ErrJson}, {"1_0", 1, api.ErrJson}, {"NaN", 0, api.ErrJson},
		{"1.5", 1, api.ErrNumber}, {"1.", 1, api.ErrNumber}, {"0.0", 1, api.ErrNumber}, {"-0.0", 2, api.ErrNumber}, {"1e5", 1, api.ErrNumber}, {"12E5", 2, api.ErrNumber}, {"[1.5]", 2, api.ErrNumber}, {`{"a":-1e}`, 7, api.ErrNumber}, {"1 .5", 2, api.ErrJson}, {"1 e5", 2, api.ErrJson},
		{"9223372036854775808", 18, api.ErrNumber}, {"9223372036854775809", 18, api.ErrNumber}, {"-9223372036854775809", 19, api.ErrNumber}, {"92233720368547758070", 19, api.ErrNumber}, {"-92233720368547758080", 20, api.ErrNumber}, {"18446744073709551616", 19, api.ErrNumber}, {"99999999999999999999999", 18, api.ErrNumber}, {"10000000000000000000", 19, api.ErrNumber}, {"[9223372036854775807.", 20, api.ErrNumber}, {"36893488147419103232", 19, api.ErrNumber},
		{"[", 1, api.ErrJson}, {"[,", 1, api.ErrJson}, {"[1", 2, api.ErrJson}, {"[1,", 3, api.ErrJson}, {"[1,]", 3, api.ErrJson}, {"[1 2", 3, api.ErrJson}, {"[1,,", 3, api.ErrJson}, {"[1}", 2, api.ErrJson}, {"[1:", 2, api.ErrJson}, {"[}", 1, api.ErrJson}, {"[1 ", 3, api.ErrJson},
		{"{", 1, api.ErrJson}, {"{]", 1, api.ErrJson}, {"{1", 1, api.ErrJson}, {"{,", 1, api.ErrJson}, {"{null", 1, api.ErrJson}, {`{"a"`, 4, api.ErrJson}, {`{"a"}`, 4, api.ErrJson}, {`{"a",`, 4, api.ErrJson}, {`{"a":`, 5, api.ErrJson}, {`{"a":}`, 5, api.ErrJson}, {`{"a"::`, 5, api.ErrJson}, {`{"a":1`, 6, api.ErrJson}, {`{"a":1,`, 7, api.ErrJson}, {`{"a":1,}`, 7, api.ErrJson}, {`{"a":1 "b"`, 7, api.ErrJson}, {`{"a":1]`, 6, api.ErrJson}, {`{"a":1,1`, 7, api.ErrJson}, {"{'a':1}", 1, api.ErrJson}, {"{a:1}", 1, api.ErrJson},
		{`{"a":1,"a":2}`, 9, api.ErrTwice}, {`{"a":1,"\u0061"`, 14, api.ErrTwice}, {`{"\u0061":1,"a":2}`, 14, api.ErrTwice}, {`{"":1,"":2}`, 7, api.ErrTwice}, {`{"a":1,"b":2,"a`, 15, api.ErrJson}, {`{"a":1,"b":{"a":{},"a":0}}`, 21, api.ErrTwice}, {`{"\ud800\udc00":1,"` + "\U00010000" + `":2}`, 23, api.ErrTwice},
		{`"`, 1, api.ErrJson}, {`"a`, 2, api.ErrJson}, {`"a"b`, 3, api.ErrJson}, {`'a'`, 0, api.ErrJson}, {"\"a\nb\"", 2, api.ErrJson}, {"\"\x00\"", 1, api.ErrJson}, {"\"\x1f\"", 1, api.ErrJson}, {"\"\t\"", 1, api.ErrJson},
		{`"\`, 2, api.ErrJson}, {`"\"`, 3, api.ErrJson}, {`"\a"`, 2, api.ErrJson}, {`"\x41"`, 2, api.ErrJson}, {`"\U0041"`, 2, api.ErrJson}, {`"\0"`, 2, api.ErrJson}, {`"\'"`, 2, api.ErrJson}, {"\"\\\n\"", 2, api.ErrJson}, {"\"\\\xff\"", 2, api.ErrJson}, {"\"\\é\"", 2, api.ErrJson},
		{`"\u`, 3, api.ErrJson}, {`"\u"`, 3, api.ErrJson}, {`"\u00`, 5, api.ErrJson}, {`"\u00g0"`, 5, api.ErrJson}, {`"\u004"`, 6, api.ErrJson}, {`"\u+041"`, 3, api.ErrJson}, {`"\u 041"`, 3, api.ErrJson}, {`"\uG"`, 3, api.ErrJson}, {`"\u/"`, 3, api.ErrJson}, {`"\u:"`, 3, api.ErrJson}, {`"\u@"`, 3, api.ErrJson}, {"\"\\u`\"", 3, api.ErrJson},
		{`"\udc00"`, 4, api.ErrJson}, {`"\uDFFF"`, 4, api.ErrJson}, {`"\ude`, 4, api.ErrJson}, {`"\ud800"`, 7, api.ErrJson}, {`"\udbff`, 7, api.ErrJson}, {`"\ud800x"`, 7, api.ErrJson}, {`"\ud800\`, 8, api.ErrJson}, {`"\ud800\n"`, 8, api.ErrJson}, {`"\ud800\u0041"`, 9, api.ErrJson}, {`"\ud800\ue000"`, 9, api.ErrJson}, {`"\ud800\ud800\udc00"`, 10, api.ErrJson}, {`"\ud800\udb`, 10, api.ErrJson}, {`"\ud800\ud7ff"`, 10, api.ErrJson}, {`"\ud800\udcg0"`, 11, api.ErrJson}, {`"\ud800\udc0`, 12, api.ErrJson}, {`"\ud800\udc00\udc00"`, 16, api.ErrJson},
		{"\"\x80\"", 1, api.ErrJson}, {"\"\xbf\"", 1, api.ErrJson}, {"\"\xc0\x80\"", 1, api.ErrJson}, {"\"\xc1\xbf\"", 1, api.ErrJson}, {"\"\xc3\"", 2, api.ErrJson}, {"\"\xc3", 2, api.ErrJson}, {"\"\xe0\x80\x80\"", 2, api.ErrJson}, {"\"\xe0\x9f\xbf\"", 2, api.ErrJson}, {"\"\xed\xa0\x80\"", 2, api.ErrJson}, {"\"\xe2\x82\"", 3, api.ErrJson}, {"\"\xe2\x82", 3, api.ErrJson}, {"\"\xe2(\"", 2, api.ErrJson}, {"\"\xf0\x8f\xbf\xbf\"", 2, api.ErrJson}, {"\"\xf0\x90\x80\"", 4, api.ErrJson}, {"\"\xf0\x90(\"", 3, api.ErrJson}, {"\"\xf4\x90\x80\x80\"", 2, api.ErrJson}, {"\"\xf5\"", 1, api.ErrJson}, {"\"\xff\"", 1, api.ErrJson}, {"\"ab\xf4\x8f\xbf", 6, api.ErrJson},
		{strings.Repeat("[", 17), 16, api.ErrDeep}, {strings.Repeat("[", 16) + "{", 16, api.ErrDeep}, {strings.Repeat("[", 16), 16, api.ErrJson}, {deep + "{}", 48, api.ErrDeep}, {deep + "[", 48, api.ErrDeep}, {deep + "1,[", 50, api.ErrDeep}, {strings.Repeat(" [", 17), 33, api.ErrDeep}, {strings.Repeat("[", 1000), 16, api.ErrDeep},
		{strings.Repeat("[", 16) + strings.Repeat("]", 15) + "," + strings.Repeat("[", 16), 47, api.ErrDeep},
	} {
		if v, at, e := jsonx.Parse(x.s); at != x.at || e != x.e || !equal(v, null()) {
			t.Errorf("%q: %v, place %d, error %d, want place %d, error %d", x.s, v, at, e, x.at, x.e)
		}
	}
}

func TestP4_3Long(t *testing.T) {
	most := strings.Repeat(" ", api.MaxJson-1) + "1"
	if v, at, e := jsonx.Parse(most); !equal(v, number(1)) || at != 0 || e != api.OK {
		t.Errorf("of the greatest size: %v, place %d, error %d", v, at, e)
	}
	for _, s := range []string{most + " ", "x" + most, strings.Repeat("[", api.MaxJson+1)} {
		if v, at, e := jsonx.Parse(s); !equal(v, null()) || at != 0 || e != api.ErrLong {
			t.Errorf("too long: %v, place %d, error %d", v, at, e)
		}
	}
	if _, at, e := jsonx.Parse(most[1:] + "x"); at != api.MaxJson-1 || e != api.ErrJson {
		t.Errorf("place %d, error %d", at, e)
	}
	if _, at, e := jsonx.Parse(`"` + strings.Repeat("a", api.MaxJson-1)); at != api.MaxJson || e != api.ErrJson {
		t.Errorf("place %d, error %d", at, e)
	}
}

// Each byte, where a value, a character, an escape, a digit, a sign might stand.
func TestP4_3EachByte(t *testing.T) {
	plainBytes, leads := "", ""
	for c := range 256 {
		if c >= 32 && c < 128 && c != '"' && c != '\\' {
			plainBytes += string(rune(c))
		}
		if c >= 0xc2 && c <= 0xf4 {
			leads += string([]byte{byte(c)})
		}
	}
	for c := range 256 {
		b := string([]byte{byte(c)})
		for _, x := range []struct {
			s     string
			at    int
			taken string // the bytes with which all is taken
			later string // those with which the fault comes later
		}{
			{b + "0", 0, " \t\r\n-123456789", `"[{tfn0`},
			{`"` + b + `a"`, 1, plainBytes, `"\` + leads},
			{`"\` + b + `"`, 2, `"\/bfnrt`, "u"},
			{`"\u00` + b + `0"`, 5, "0123456789abcdefABCDEF", ""},
			{"[1" + b + "2]", 2, "0123456789,", " \t\r\n]"},
			{"[1" + b, 2, "]", " \t\r\n,0123456789"},
			{`{"a"` + b + ":1}", 4, " \t\r\n", ":"},
			{`{"a":1` + b, 6, "}", " \t\r\n,0123456789"},
			{"true" + b, 4, " \t\r\n", ""},
		} {
			_, at, e := jsonx.Parse(x.s)
			good := e != api.OK && at == x.at
			switch {
			case strings.Contains(x.taken, b):
				good = e == api.OK
			case strings.Contains(x.later, b):
				good = e != api.OK && at > x.at
			}
			if !good {
				t.Errorf("%q: place %d, error %d", x.s, at, e)
			}
		}
	}
}

func TestP4_5ThereAndBack(t *testing.T) {
	r := rand.New(rand.NewSource(5))
	for range 3000 {
		v := random(r, r.Intn(6))
		s, e := jsonx.Print(v)
		if e != api.OK {
			t.Fatalf("%v: error %d", v, e)
		}
		w, at, e := jsonx.Parse(s)
		if e != api.OK || at != 0 || !equal(w, sorted(v)) {
			t.Fatalf("%q: %v, place %d, error %d, want %v", s, w, at, e, sorted(v))
		}
		if jsonx.Check(w) != api.OK || !jsonx.Same(v, w) {
			t.Fatalf("%q: not the same", s)
		}
	}
}

func TestP4_6OneForm(t *testing.T) {
	r := rand.New(rand.NewSource(6))
	var values []api.Json
	var prints []string
	for range 300 {
		v := random(r, 2)
		s, _ := jsonx.Print(v)
		values, prints = append(values, v), append(prints, s)
		w, _, _ := jsonx.Parse(loosened(r, v))
		if again, e := jsonx.Print(w); e != api.OK || again != s {
			t.Fatalf("%q, then %q, error %d", s, again, e)
		}
	}
	for i := range values {
		for j := range values {
			if jsonx.Same(values[i], values[j]) != (prints[i] == prints[j]) {
				t.Fatalf("%q and %q", prints[i], prints[j])
			}
		}
	}
}

// loosened is some text of a value: with blanks, escapes, and its members in their order.
func loosened(r *rand.Rand, v api.Json) string {
	blank := func() string { return strings.Repeat(" ", r.Intn(2)) + strings.Repeat("\n\t", r.Intn(2)) }
	var parts []string
	for i, item := range v.Items {
		part := loosened(r, item)
		if v.Kind == api.JObject {
			part = blank() + loosenedText(r, v.Names[i]) + blank() + ":" + part
		}
		parts = append(parts, part)
	}
	inner := strings.Join(parts, ",")
	if len(parts) == 0 {
		inner = blank()
	}
	switch v.Kind {
	case api.JList:
		return blank() + "[" + inner + "]" + blank()
	case api.JObject:
		return blank() + "{" + inner + "}" + blank()
	case api.JText:
		return blank() + loosenedText(r, v.Text) + blank()
	}
	s, _ := jsonx.Print(v)
	if s == "0" && r.Intn(2) == 0 {
		s = "-0"
	}
	return blank() + s + blank()
}

func loosenedText(r *rand.Rand, s string) string {
	unit := func(n int64) string {
		digits := strconv.FormatInt(0x10000+n, 16)[1:]
		if r.Intn(2) == 0 {
			digits = strings.ToUpper(digits)
		}
		return `\u` + digits
	}
	out := `"`
	for _, c := range s {
		switch {
		case c >= 0x10000 && r.Intn(2) == 0:
			out += unit(0xd800+int64(c-0x10000)>>10) + unit(0xdc00+int64(c-0x10000)&0x3ff)
		case c < 0x10000 && (c < 32 || c == '"' || c == '\\' || r.Intn(2) == 0):
			out += unit(int64(c))
		default:
			out += string(c)
		}
	}
	return out + `"`
}

func TestP4_7Blanks(t *testing.T) {
	r := rand.New(rand.NewSource(7))
	for range 500 {
		s, _ := jsonx.Print(random(r, 3))
		if r.Intn(2) == 0 {
			i := r.Intn(len(s))
			s = s[:i] + s[i+1:]
		}
		v, at, e := jsonx.Parse(s)
		ahead := " \n\r\t"[:r.Intn(5)]
		w, further, f := jsonx.Parse(ahead + s)
		if e != f || !equal(v, w) || e != api.OK && further != at+len(ahead) || e == api.OK && further != 0 {
			t.Fatalf("%q: place %d, error %d, with %d blanks ahead place %d, error %d", s, at, e, len(ahead), further, f)
		}
		if e == api.OK || at < len(s) {
			w, further, f = jsonx.Parse(s + "\t\r\n ")
			if e != f || at != further || !equal(v, w) {
				t.Fatalf("%q: place %d, error %d, with blanks behind place %d, error %d", s, at, e, further, f)
			}
		}
	}
}

func TestP4_8Order(t *testing.T) {
	r := rand.New(rand.NewSource(8))
	for range 500 {
		v := random(r, 4)
		w := shuffled(r, v)
		s, e := jsonx.Print(v)
		if again, f := jsonx.Print(w); s != again || e != f || !jsonx.Same(v, w) {
			t.Fatalf("%q and %q", s, again)
		}
	}
}

func TestP4_9CutOff(t *testing.T) {
	r := rand.New(rand.NewSource(9))
	for range 300 {
		v := random(r, 3)
		if v.Kind < api.JText {
			continue
		}
		s, _ := jsonx.Print(v)
		for i := range len(s) {
			if _, at, e := jsonx.Parse(s[:i]); at != i || e != api.ErrJson {
				t.Fatalf("%q: place %d, error %d", s[:i], at, e)
			}
		}
	}
}

// Two answers share nothing.
func TestP4_3Memory(t *testing.T) {
	const s = `{"a":[1,2,3],"b":[1,2,3]}`
	v, _, _ := jsonx.Parse(s)
	w, _, _ := jsonx.Parse(s)
	v.Names[0] = "x"
	v.Items[0].Items[0] = null()
	v.Items[0].Items = append(v.Items[0].Items, null())
	if again, _, _ := jsonx.Parse(s); !equal(w, again) || !equal(v.Items[1], again.Items[1]) {
		t.Errorf("%v, %v", v, w)
	}
}
