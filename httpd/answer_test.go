package httpd_test

import (
	"bytes"
	"fmt"
	"math"
	"regexp"
	"slices"
	"strconv"
	"strings"
	"testing"

	"blotter/api"
	"blotter/httpd"
)

// words is the document's row of statuses.
const words = "101 Switching Protocols, 200 OK, 400 Bad Request, 401 Unauthorized, 403 Forbidden, 404 Not Found, 405 Method Not Allowed, 409 Conflict, 413 Content Too Large, 414 URI Too Long, 422 Unprocessable Content, 426 Upgrade Required, 431 Request Header Fields Too Large, 500 Internal Server Error, 501 Not Implemented, 503 Service Unavailable, 505 HTTP Version Not Supported, 507 Insufficient Storage"

// statuses is the words of each status.
func statuses() map[int]string {
	m := map[int]string{}
	for _, s := range strings.Split(words, ", ") {
		digits, reason, _ := strings.Cut(s, " ")
		status, _ := strconv.Atoi(digits)
		m[status] = reason
	}
	return m
}

func sameAnswer(a, b api.Answer) bool {
	return a.Status == b.Status && slices.Equal(a.Headers, b.Headers) && bytes.Equal(a.Body, b.Body)
}

func isNoAnswer(a api.Answer) bool { return a.Status == 0 && len(a.Headers) == 0 && len(a.Body) == 0 }

// headers is so many that are good.
func headers(n int) []api.Header { return slices.Repeat([]api.Header{{Name: "a", Value: "b"}}, n) }

func TestP8_4Reason(t *testing.T) {
	m := statuses()
	for status := -10; status < 2000; status++ {
		if httpd.Reason(status) != m[status] {
			t.Errorf("%d: %q", status, httpd.Reason(status))
		}
	}
	for _, status := range []int{math.MinInt, math.MaxInt, -200, 1<<32 + 200} {
		if httpd.Reason(status) != "" {
			t.Error(status)
		}
	}
}

func TestP8_5Write(t *testing.T) {
	for _, x := range []struct {
		a    api.Answer
		want string
	}{
		{api.Answer{Status: 200, Body: []byte("hi")}, "HTTP/1.1 200 OK|content-length: 2||hi"},
		{api.Answer{Status: 404}, "HTTP/1.1 404 Not Found|content-length: 0||"},
		{api.Answer{Status: 404, Headers: []api.Header{}, Body: []byte{}}, "HTTP/1.1 404 Not Found|content-length: 0||"},
		{api.Answer{Status: 101}, "HTTP/1.1 101 Switching Protocols||"},
		{api.Answer{Status: 101, Headers: []api.Header{{Name: "upgrade", Value: "websocket"}, {Name: "a"}}}, "HTTP/1.1 101 Switching Protocols|upgrade: websocket|a: ||"},
		{api.Answer{Status: 507, Headers: []api.Header{{Name: "b", Value: "c \td"}, {Name: "b", Value: "A:"}, {Name: "x-!0", Value: ""}}, Body: []byte("\r\n\x00\xff")}, "HTTP/1.1 507 Insufficient Storage|b: c \td|b: A:|x-!0: |content-length: 4||\r\n\x00\xff"},
		{api.Answer{Status: 200, Headers: []api.Header{{Name: "transfer-encoding", Value: "chunked"}, {Name: "content-lengths", Value: "7"}}}, "HTTP/1.1 200 OK|transfer-encoding: chunked|content-lengths: 7|content-length: 0||"},
	} {
		if b, e := httpd.Write(x.a); e != api.OK || !bytes.Equal(b, lines(x.want)) {
			t.Errorf("%v: %q %d", x.a, b, e)
		}
	}
	for status, reason := range statuses() {
		want := fmt.Sprintf("HTTP/1.1 %d %s\r\ncontent-length: 0\r\n\r\n", status, reason)
		if status == 101 {
			want = "HTTP/1.1 101 Switching Protocols\r\n\r\n"
		}
		if b, e := httpd.Write(api.Answer{Status: status}); e != api.OK || string(b) != want {
			t.Errorf("%d: %q %d", status, b, e)
		}
	}
}

func TestP8_5Refused(t *testing.T) {
	large := make([]byte, api.MaxBody+1)
	long := []api.Header{{Name: "a", Value: strings.Repeat("b", api.MaxHead)}}
	bad := []api.Header{{Name: "A"}}
	for i, x := range []struct {
		a    api.Answer
		want api.Errno
	}{
		{api.Answer{}, api.ErrArg}, {api.Answer{Status: 201}, api.ErrArg}, {api.Answer{Status: -200}, api.ErrArg}, {api.Answer{Status: 1, Body: []byte("a")}, api.ErrArg}, {api.Answer{Status: math.MinInt}, api.ErrArg},
		{api.Answer{Status: 201, Headers: bad, Body: large}, api.ErrArg}, {api.Answer{Status: 200, Headers: bad, Body: large}, api.ErrHead}, {api.Answer{Status: 101, Headers: bad, Body: large}, api.ErrHead}, {api.Answer{Status: 200, Headers: append(slices.Clone(bad), long...)}, api.ErrHead},
		{api.Answer{Status: 200, Headers: headers(31)}, api.OK}, {api.Answer{Status: 200, Headers: headers(32)}, api.ErrHead}, {api.Answer{Status: 200, Headers: headers(33)}, api.ErrHead}, {api.Answer{Status: 101, Headers: headers(31)}, api.OK}, {api.Answer{Status: 101, Headers: headers(32)}, api.ErrHead},
		{api.Answer{Status: 200, Body: large[1:]}, api.OK}, {api.Answer{Status: 200, Body: large}, api.ErrBody}, {api.Answer{Status: 101, Body: []byte("a")}, api.ErrBody}, {api.Answer{Status: 101, Body: large}, api.ErrBody}, {api.Answer{Status: 101, Body: []byte{}}, api.OK},
		{api.Answer{Status: 200, Headers: long, Body: large}, api.ErrBody}, {api.Answer{Status: 101, Headers: long, Body: []byte("a")}, api.ErrBody}, {api.Answer{Status: 200, Headers: long}, api.ErrLong}, {api.Answer{Status: 101, Headers: long}, api.ErrLong},
	} {
		if b, e := httpd.Write(x.a); e != x.want || (e == api.OK) != (len(b) > 0) {
			t.Errorf("%d: %d, not %d", i, e, x.want)
		}
	}
}

func TestP8_5Headers(t *testing.T) {
	for _, h := range []api.Header{
		{}, {Value: "a"}, {Name: "A", Value: "b"}, {Name: "a-B"}, {Name: "Content-Length"}, {Name: "content-length"}, {Name: "content-length", Value: "0"}, {Name: "a b"}, {Name: "a:"}, {Name: "a\r\nb"}, {Name: "\x00"}, {Name: "\xff"}, {Name: strings.Repeat("a", 65)},
		{Name: "a", Value: " "}, {Name: "a", Value: " b"}, {Name: "a", Value: "b "}, {Name: "a", Value: "\tb"}, {Name: "a", Value: "b\t"}, {Name: "a", Value: "b\r\nc: d"}, {Name: "a", Value: "\x7f"}, {Name: "a", Value: "b\x1fc"}, {Name: "a", Value: "\xc3\xa4"}, {Name: "a", Value: "\n"}, {Name: "a", Value: "\x00"},
	} {
		for _, l := range [][]api.Header{{h}, {{Name: "a"}, h}, {h, {Name: "a"}}} {
			for _, status := range []int{101, 200} {
				if b, e := httpd.Write(api.Answer{Status: status, Headers: l}); e != api.ErrHead || len(b) != 0 {
					t.Errorf("%q: %d", l, e)
				}
			}
		}
	}
	for _, h := range []api.Header{{Name: strings.Repeat("a", 64), Value: ""}, {Name: "a", Value: "!"}, {Name: "z", Value: "~ ~"}, {Name: "!#$%&'*+-.^_`|~09az", Value: "a\t \tb"}} {
		if _, e := httpd.Write(api.Answer{Status: 200, Headers: []api.Header{h}}); e != api.OK {
			t.Errorf("%q: %d", h, e)
		}
	}
}

// A head of MaxHead bytes is written, and one of a byte more is not: with content-length, and of 101 without.
func TestP8_5Long(t *testing.T) {
	for status, around := range map[int]int{200: len("HTTP/1.1 200 OK\r\na: \r\ncontent-length: 2"), 101: len("HTTP/1.1 101 Switching Protocols\r\na: ")} {
		body := []byte("hi")
		if status == 101 {
			body = nil
		}
		a := api.Answer{Status: status, Headers: []api.Header{{Name: "a", Value: strings.Repeat("x", api.MaxHead-around)}}, Body: body}
		b, e := httpd.Write(a)
		if e != api.OK || len(b) != api.MaxHead+4+len(body) {
			t.Fatalf("%d: %d, %d bytes", status, e, len(b))
		}
		if back, n, e := httpd.Read(b); e != api.OK || n != len(b) || !sameAnswer(back, a) {
			t.Errorf("%d: it is not read: %d", status, e)
		}
		a.Headers[0].Value += "x"
		if b, e := httpd.Write(a); e != api.ErrLong || len(b) != 0 {
			t.Errorf("%d: one more byte: %d", status, e)
		}
	}
}

func TestP8_6Read(t *testing.T) {
	for _, x := range []struct {
		s    string
		want api.Answer
	}{
		{"HTTP/1.1 200 OK|content-length: 2||hi", api.Answer{Status: 200, Body: []byte("hi")}},
		{"HTTP/1.1 404 Not Found|content-length: 0||", api.Answer{Status: 404}},
		{"HTTP/1.1 101 Switching Protocols||", api.Answer{Status: 101}},
		{"HTTP/1.1 101 Switching Protocols|a: b|c: ||", api.Answer{Status: 101, Headers: []api.Header{{Name: "a", Value: "b"}, {Name: "c"}}}},
		{"HTTP/1.1 200 OK|a: b|a: : c: d|e: |content-length: 10||0123456789", api.Answer{Status: 200, Headers: []api.Header{{Name: "a", Value: "b"}, {Name: "a", Value: ": c: d"}, {Name: "e"}}, Body: []byte("0123456789")}},
		{"HTTP/1.1 200 OK|" + strings.Repeat("a: b|", 31) + "content-length: 0||", api.Answer{Status: 200, Headers: headers(31)}},
		{"HTTP/1.1 101 Switching Protocols|" + strings.Repeat("a: b|", 32) + "|", api.Answer{Status: 101, Headers: headers(32)}},
	} {
		b := lines(x.s)
		for _, behind := range []string{"", "x", "\r\n\r\n", "HTTP/1.1 200 OK"} {
			a, n, e := httpd.Read(append(slices.Clone(b), behind...))
			if e != api.OK || n != len(b) || !sameAnswer(a, x.want) {
				t.Errorf("%q and %q: %v %d %d", x.s, behind, a, n, e)
			}
		}
		for i := range b {
			if a, n, e := httpd.Read(b[:i]); e != api.ErrShort || n != 0 || !isNoAnswer(a) {
				t.Errorf("%q: %v %d %d", b[:i], a, n, e)
			}
		}
	}
}

func TestP8_6Refused(t *testing.T) {
	many := strings.Repeat("a: b|", 32)
	for _, x := range []struct {
		s    string
		want api.Errno
	}{
		{"", api.ErrShort}, {"x", api.ErrShort}, {"HTTP/1.0", api.ErrShort}, {"|", api.ErrShort}, {"\n\n", api.ErrShort},
		{"||", api.ErrHead}, {"HTTP/1.1 200 OK||", api.ErrHead}, {"HTTP/1.1 201 Created|content-length: 0||", api.ErrHead}, {"HTTP/1.1 200 ok|content-length: 0||", api.ErrHead}, {"HTTP/1.1 200 Not Found|content-length: 0||", api.ErrHead}, {"HTTP/1.1 200|content-length: 0||", api.ErrHead}, {"HTTP/1.1 200 |content-length: 0||", api.ErrHead},
		{"HTTP/1.1 0200 OK|content-length: 0||", api.ErrHead}, {"HTTP/1.1 +200 OK|content-length: 0||", api.ErrHead}, {"HTTP/1.1  200 OK|content-length: 0||", api.ErrHead}, {"HTTP/1.1 200  OK|content-length: 0||", api.ErrHead}, {"HTTP/1.1 200 OK |content-length: 0||", api.ErrHead}, {" HTTP/1.1 200 OK|content-length: 0||", api.ErrHead}, {"HTTP/1.0 200 OK|content-length: 0||", api.ErrHead}, {"http/1.1 200 OK|content-length: 0||", api.ErrHead}, {"HTTP/1.1 201 |content-length: 0||", api.ErrHead}, {"HTTP/1.1 -1 |content-length: 0||", api.ErrHead}, {"HTTP/1.1 x OK|content-length: 0||", api.ErrHead}, {"|HTTP/1.1 200 OK|content-length: 0||", api.ErrHead}, {"HTTP/1.1 200 OK\n|content-length: 0||", api.ErrHead},
		{"HTTP/1.1 99999999999999999999 OK|content-length: 0||", api.ErrHead}, {"HTTP/1.1 0 |content-length: 0||", api.ErrHead},
		{"HTTP/1.1 200 OK|" + many + "content-length: 0||", api.ErrHead}, {"HTTP/1.1 101 Switching Protocols|" + many + "a: b||", api.ErrHead}, {"HTTP/1.1 200 OK|" + many + "|", api.ErrHead},
		{"HTTP/1.1 200 OK|a: b||", api.ErrHead}, {"HTTP/1.1 200 OK|content-length: 0|a: b||", api.ErrHead}, {"HTTP/1.1 200 OK|Content-Length: 0||", api.ErrHead}, {"HTTP/1.1 200 OK|content-length:0||", api.ErrHead}, {"HTTP/1.1 200 OK|content-length:  0||", api.ErrHead}, {"HTTP/1.1 200 OK|content-length: 0 ||", api.ErrHead}, {"HTTP/1.1 200 OK|content-length: ||", api.ErrHead}, {"HTTP/1.1 200 OK|content-length:||", api.ErrHead}, {"HTTP/1.1 200 OK|content-length\t: 0||", api.ErrHead}, {"HTTP/1.1 200 OK|content-length:\t0||", api.ErrHead}, {"HTTP/1.1 200 OK|xcontent-length: 0||", api.ErrHead},
		{"HTTP/1.1 200 OK|content-length: 00||", api.ErrHead}, {"HTTP/1.1 200 OK|content-length: 02||hi", api.ErrHead}, {"HTTP/1.1 200 OK|content-length: -0||", api.ErrHead}, {"HTTP/1.1 200 OK|content-length: +2||hi", api.ErrHead}, {"HTTP/1.1 200 OK|content-length: -1||", api.ErrHead}, {"HTTP/1.1 200 OK|content-length: 0x2||", api.ErrHead}, {"HTTP/1.1 200 OK|content-length: 1234567890||", api.ErrHead}, {"HTTP/1.1 200 OK|content-length: 2a||hi", api.ErrHead}, {"HTTP/1.1 200 OK|content-length: 99999999999999999999||", api.ErrHead}, {"HTTP/1.1 200 OK|content-length: 2_0||", api.ErrHead},
		{"HTTP/1.1 200 OK|content-length: 0|content-length: 0||", api.ErrHead}, {"HTTP/1.1 101 Switching Protocols|content-length: 0||", api.ErrHead}, {"HTTP/1.1 101 Switching Protocols|content-length: 2||hi", api.ErrHead},
		{"HTTP/1.1 200 OK|content-length: 32769||", api.ErrBody}, {"HTTP/1.1 200 OK|content-length: 999999999||", api.ErrBody}, {"HTTP/1.1 200 OK|A: b|content-length: 999999999||", api.ErrHead}, {"HTTP/1.1 200 OK|content-length: 32768||", api.ErrShort}, {"HTTP/1.1 200 OK|content-length: 3||hi", api.ErrShort}, {"HTTP/1.1 200 OK|content-length: 1||", api.ErrShort},
	} {
		if a, n, e := httpd.Read(lines(x.s)); e != x.want || n != 0 || !isNoAnswer(a) {
			t.Errorf("%.80q: %d, not %d", x.s, e, x.want)
		}
	}
	for _, line := range []string{"a", "a:", "a:b", "a : b", ": b", ":", "A: b", "a:  b", "a: b ", "a: \tb", "a: b\t", "a:\tb", "a b: c", "a: \x7f", "a: \xff", "\xff: a", "a: b\rc", "a: b\nc", "a\n: b", "content-length: 0", strings.Repeat("a", 65) + ": b"} {
		for _, s := range []string{"HTTP/1.1 101 Switching Protocols|" + line + "|x: y||", "HTTP/1.1 101 Switching Protocols|x: y|" + line + "||", "HTTP/1.1 200 OK|" + line + "|content-length: 0||", "HTTP/1.1 200 OK|x: y|" + line + "|content-length: 0||"} {
			if a, n, e := httpd.Read(lines(s)); e != api.ErrHead || n != 0 || !isNoAnswer(a) {
				t.Errorf("%q: %v %d %d", s, a, n, e)
			}
		}
	}
}

func TestP8_6Long(t *testing.T) {
	begin := "HTTP/1.1 200 OK\r\na: "
	behind := "\r\ncontent-length: 0"
	exact := begin + strings.Repeat("x", api.MaxHead-len(begin)-len(behind)) + behind
	if a, n, e := httpd.Read([]byte(exact + "\r\n\r\n")); e != api.OK || n != api.MaxHead+4 || a.Status != 200 {
		t.Error("a head of 8192 bytes", n, e)
	}
	for _, x := range []struct {
		b    string
		want api.Errno
	}{
		{exact, api.ErrShort}, {exact + "\r\n\r", api.ErrShort}, {exact + "0\r\n", api.ErrShort}, {exact + "0000", api.ErrHead}, {exact + "0\r\n\r\n", api.ErrHead}, {exact + "\r\n\r0", api.ErrHead},
		{strings.Repeat("x", api.MaxHead+3), api.ErrShort}, {strings.Repeat("x", api.MaxHead+4), api.ErrHead}, {strings.Repeat("x", api.MaxHead+1) + "\r\n\r\n", api.ErrHead}, {strings.Repeat("x", 1<<17), api.ErrHead},
	} {
		if a, n, e := httpd.Read([]byte(x.b)); e != x.want || n != 0 || !isNoAnswer(a) {
			t.Errorf("%d bytes, .. %q: %d, not %d", len(x.b), x.b[len(x.b)-5:], e, x.want)
		}
	}
	long := "HTTP/1.1 200 OK\r\na: " + strings.Repeat("x", api.MaxHead-len(begin)-len(behind)+1) + behind
	if _, _, e := httpd.Read([]byte(long + "\r\n\r\n")); e != api.ErrHead {
		t.Error("a good head of 8193 bytes", e)
	}
	body := bytes.Repeat([]byte("y"), api.MaxBody)
	b := append([]byte("HTTP/1.1 200 OK\r\ncontent-length: 32768\r\n\r\n"), body...)
	if a, n, e := httpd.Read(b); e != api.OK || n != len(b) || !bytes.Equal(a.Body, body) {
		t.Error("a full body", n, e)
	}
}

func TestP8_6Memory(t *testing.T) {
	room := []byte("HTTP/1.1 200 OK\r\na: b\r\ncontent-length: 2\r\n\r\nhibehind")
	old := slices.Clone(room)
	a, _, e := httpd.Read(room[:len(room)-6])
	if e != api.OK || !bytes.Equal(room, old) {
		t.Fatal(e)
	}
	_ = append(a.Body, "xyz"...)
	if !bytes.Equal(room, old) {
		t.Error("a body's room is that of the argument")
	}
	clear(room)
	if string(a.Body) != "hi" || a.Headers[0] != (api.Header{Name: "a", Value: "b"}) {
		t.Error("what was handed in is kept", a)
	}
	body := []byte("hibehind")
	l := []api.Header{{Name: "a"}, {Name: "b"}}
	b, _ := httpd.Write(api.Answer{Status: 200, Headers: l[:1], Body: body[:2]})
	clear(b[:cap(b)])
	if string(body) != "hibehind" || l[1] != (api.Header{Name: "b"}) {
		t.Error("changed:", string(body), l)
	}
}

var ownForm = regexp.MustCompile("^([a-z0-9!#$%&'*+\\-.^_`|~]{1,64}): ((?:[!-~](?:[ \t!-~]*[!-~])?)?)$")
var ownLength = regexp.MustCompile(`^content-length: (0|[1-9][0-9]{0,8})$`)

// expectedAnswer is what Read answers, worked out by forms.
func expectedAnswer(b []byte) (api.Answer, int, api.Errno) {
	none := api.Answer{}
	head, behind, found := strings.Cut(string(b), "\r\n\r\n")
	if found && len(head) > 8192 || !found && len(b) >= 8196 {
		return none, 0, api.ErrHead
	}
	if !found {
		return none, 0, api.ErrShort
	}
	rows := strings.Split(head, "\r\n")
	var a api.Answer
	for status, reason := range statuses() {
		if rows[0] == fmt.Sprintf("HTTP/1.1 %d %s", status, reason) {
			a.Status = status
		}
	}
	rows = rows[1:]
	if a.Status == 0 || len(rows) > 32 || a.Status != 101 && len(rows) == 0 {
		return none, 0, api.ErrHead
	}
	size := 0
	if a.Status != 101 {
		m := ownLength.FindStringSubmatch(rows[len(rows)-1])
		if m == nil {
			return none, 0, api.ErrHead
		}
		size, _ = strconv.Atoi(m[1])
		rows = rows[:len(rows)-1]
	}
	for _, row := range rows {
		m := ownForm.FindStringSubmatch(row)
		if m == nil || m[1] == "content-length" {
			return none, 0, api.ErrHead
		}
		a.Headers = append(a.Headers, api.Header{Name: m[1], Value: m[2]})
	}
	if size > 32768 {
		return none, 0, api.ErrBody
	}
	if size > len(behind) {
		return none, 0, api.ErrShort
	}
	a.Body = []byte(behind[:size])
	return a, len(head) + 4 + size, api.OK
}

// answer is one by chance that Write takes, but now and then.
func (g maker) answer() api.Answer {
	all := strings.Split(words, ", ")
	status, _ := strconv.Atoi(all[g.Intn(len(all))][:3])
	a := api.Answer{Status: status}
	for range g.Intn(4) {
		a.Headers = append(a.Headers, api.Header{Name: g.one("a", "x-y", "A", "content-length", ""), Value: g.one("b", "", "c d", " e", "\x7f")})
	}
	if status != 101 || g.Intn(10) == 0 {
		a.Body = []byte(g.letters(g.Intn(20), "ab\r\n\x00\xff"))
	}
	return a
}

func TestP8_8Answers(t *testing.T) {
	good := 0
	for seed := range int64(20000) {
		g := newMaker(seed)
		a := g.answer()
		b, e := httpd.Write(a)
		if e != api.OK {
			continue
		}
		good++
		back, n, e := httpd.Read(append(slices.Clone(b), g.letters(g.Intn(5), "ab\r\n")...))
		if e != api.OK || n != len(b) || !sameAnswer(back, a) {
			t.Fatalf("seed %d: %v is %v, %d %d", seed, a, back, n, e)
		}
	}
	if good < 5000 {
		t.Error("too few:", good)
	}
}

func TestP8_8Requests(t *testing.T) {
	good := 0
	for seed := range int64(20000) {
		g := newMaker(seed)
		r, _, status := httpd.Parse(g.bytes())
		if status != 0 {
			continue
		}
		if _, chunked := httpd.Find(r.Headers, "transfer-encoding"); chunked {
			if b, e := httpd.Print(r); e != api.ErrArg || len(b) != 0 {
				t.Fatalf("seed %d: chunks are printed: %q", seed, b)
			}
			continue
		}
		good++
		b, e := httpd.Print(r)
		back, n, status := httpd.Parse(b)
		if e != api.OK || status != 0 || n != len(b) || !equal(back, r) {
			t.Fatalf("seed %d: %v: %d, %q is %v", seed, r, e, b, back)
		}
	}
	if good < 3000 {
		t.Error("too few:", good)
	}
}

func TestP8_6Oracle(t *testing.T) {
	seen := map[api.Errno]int{}
	for seed := range int64(20000) {
		g := newMaker(seed)
		a := g.answer()
		var s strings.Builder
		fmt.Fprintf(&s, "HTTP/1.1 %d %s\r\n", a.Status, httpd.Reason(a.Status))
		for _, h := range a.Headers {
			s.WriteString(h.Name + ": " + h.Value + "\r\n")
		}
		if a.Status != 101 || g.Intn(10) == 0 {
			s.WriteString("content-length: " + g.one(strconv.Itoa(len(a.Body)), "2", "32769", "00", "1234567890", "999999999", "x") + "\r\n")
		}
		s.WriteString("\r\n" + string(a.Body))
		b := g.spoiled([]byte(s.String()))
		got, n, e := httpd.Read(b)
		want, wantN, wantE := expectedAnswer(b)
		if e != wantE || n != wantN || !sameAnswer(got, want) {
			t.Fatalf("seed %d, %q: %v %d %d, not %v %d %d", seed, b, got, n, e, want, wantN, wantE)
		}
		seen[e]++
	}
	for _, e := range []api.Errno{api.OK, api.ErrHead, api.ErrShort, api.ErrBody} {
		if seen[e] < 50 {
			t.Errorf("%d was there %d times", e, seen[e])
		}
	}
}
