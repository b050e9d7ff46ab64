package jsonx_test

import (
	"encoding/json"
	"io"
	"math/rand"
	"strconv"
	"strings"
	"testing"
	"unicode/utf8"

	"blotter/api"
	"blotter/jsonx"
)

// oracle says which texts are taken by what the library's decoder says, and by rules that may be left out one by one.
type oracle struct{ anyDepth, anyNumber, twins bool }

// takes tells whether a text is taken.
func (o oracle) takes(s string) bool {
	if !json.Valid([]byte(s)) || !utf8.ValidString(s) || !pairedHalves(s) {
		return false
	}
	d := json.NewDecoder(strings.NewReader(s))
	d.UseNumber()
	return o.value(d, 0) && !d.More()
}

// pairedHalves tells whether in the escapes of a text that is JSON each half of a character stands by its other one.
func pairedHalves(s string) bool {
	high := false
	for i := 0; i < len(s); {
		n, size := int64(-1), 1
		if s[i] == '\\' {
			size = 2
			if s[i+1] == 'u' {
				size = 6
				n, _ = strconv.ParseInt(s[i+2:i+6], 16, 32)
			}
		}
		if low := n >= 0xdc00 && n <= 0xdfff; low != high {
			return false
		}
		high = n >= 0xd800 && n <= 0xdbff
		i += size
	}
	return !high
}

func (o oracle) value(d *json.Decoder, around int) bool {
	token, err := d.Token()
	if err != nil {
		return err == io.EOF
	}
	switch x := token.(type) {
	case json.Number:
		_, err := strconv.ParseInt(x.String(), 10, 64)
		return err == nil || o.anyNumber
	case json.Delim:
		if around == api.MaxDeep && !o.anyDepth {
			return false
		}
		names := map[string]bool{}
		for d.More() {
			if x == '{' {
				token, _ := d.Token()
				name, _ := token.(string)
				if names[name] && !o.twins {
					return false
				}
				names[name] = true
			}
			if !o.value(d, around+1) {
				return false
			}
		}
		d.Token()
	}
	return true
}

// endings is what may end a beginning of a text, but for the brackets that are open.
func endings() []string {
	var out []string
	inner := []string{"", "0", "00", "000", "0000", "u0000", "\\", "n", "\\udc00", "udc00", "dc00", "c00", "\x80", "\x80\x80", "\x80\x80\x80", "\xbf", "\xbf\x80", "\xbf\x80\x80", "\xa0\x80", "\x90\x80\x80", "00\\udc00", "0\\udc00", "800\\udc00", "\x90", "\x9f\xbf"}
	for _, s := range inner {
		out = append(out, s+`!@"`, s+`!@":0`)
	}
	return append(out, "", "0", `"!@":0`, ":0", "true", "rue", "ue", "e", "alse", "lse", "se", "ull", "ll", "l")
}

// closers is the brackets that close what a beginning of a text has open.
func closers(s string) string {
	var open []byte
	inText := false
	for i := 0; i < len(s); i++ {
		switch c := s[i]; {
		case inText && c == '\\':
			i++
		case c == '"':
			inText = !inText
		case inText:
		case c == '[':
			open = append(open, ']')
		case c == '{':
			open = append(open, '}')
		case (c == ']' || c == '}') && len(open) > 0:
			open = open[:len(open)-1]
		}
	}
	out := ""
	for _, c := range open {
		out = string(c) + out
	}
	return out
}

// begins tells whether some text that is taken begins with s.
func (o oracle) begins(s string, endings []string) bool {
	behind := closers(s)
	for _, end := range endings {
		if o.takes(s + end + behind) {
			return true
		}
	}
	return false
}

// expected is the place and the error of a text.
func expected(s string, endings []string) (int, api.Errno) {
	if (oracle{}).takes(s) {
		return 0, api.OK
	}
	for i := range len(s) {
		head := s[:i+1]
		switch {
		case (oracle{}).begins(head, endings):
			continue
		case (oracle{anyDepth: true}).begins(head, endings):
			return i, api.ErrDeep
		case (oracle{anyNumber: true}).begins(head, endings):
			return i, api.ErrNumber
		case (oracle{twins: true}).begins(head, endings):
			return i, api.ErrTwice
		}
		return i, api.ErrJson
	}
	return len(s), api.ErrJson
}

// mangled is a text of a value with some bytes changed.
func mangled(r *rand.Rand, s string) string {
	pieces := []string{"", "", "\"", "\\", "u", "[", "]", "{", "}", ",", ":", "0", "1", "-", ".", "e", "d", "8", "c", " ", "\n", "t", "null", "\x00", "\x80", "\xe0", "\xed\xa0\x80", "\xf4\x90", "\xff", "é", `"a":`, `\u`, `\ud800`, `\udc00`, "9223372036854775808"}
	for range r.Intn(3) {
		i := r.Intn(len(s) + 1)
		j := min(len(s), i+r.Intn(3))
		s = s[:i] + pieces[r.Intn(len(pieces))] + s[j:]
	}
	return s
}

// The place of a fault is the first byte with which nothing that is taken begins, and the error the rule without which something would.
func TestP4_3Oracle(t *testing.T) {
	r := rand.New(rand.NewSource(3))
	ends := endings()
	texts := []string{`{"a":1,"a":2}`, `{"a":[{"b":0,"c":0,"b":1}]}`, "9223372036854775807", "-9223372036854775808", "[1.5,2e9]", strings.Repeat("[", 17), strings.Repeat("[", 16) + strings.Repeat("]", 16), strings.Repeat(`{"a":`, 16) + "1" + strings.Repeat("}", 16), `"\ud83d\ude00"`, `"\udc00"`}
	seen := map[api.Errno]int{}
	for i := range 1200 {
		s := texts[i%len(texts)]
		if i%3 > 0 {
			s = loosened(r, random(r, 3))
		}
		if len(s) > 150 {
			continue
		}
		s = mangled(r, s)
		at, e := expected(s, ends)
		if _, gotAt, got := jsonx.Parse(s); gotAt != at || got != e {
			t.Fatalf("%q: place %d, error %d, want place %d, error %d", s, gotAt, got, at, e)
		}
		seen[e]++
	}
	for _, e := range []api.Errno{api.OK, api.ErrJson, api.ErrDeep, api.ErrNumber, api.ErrTwice} {
		if seen[e] == 0 {
			t.Errorf("no text had error %d", e)
		}
	}
}
