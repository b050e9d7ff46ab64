package httpd_test

import (
	"bytes"
	"fmt"
	"reflect"
	"slices"
	"strings"
	"testing"

	"blotter/api"
	"blotter/httpd"
)

// lines is a text in which | stands for the end of a line.
func lines(s string) []byte { return []byte(strings.ReplaceAll(s, "|", "\r\n")) }

// equal tells whether requests are the same, nil and empty being one.
func equal(a, b api.Request) bool {
	return a.Method == b.Method && a.Path == b.Path && slices.Equal(a.Headers, b.Headers) && bytes.Equal(a.Body, b.Body)
}

func isZero(r api.Request) bool {
	return r.Method == "" && r.Path == "" && len(r.Headers) == 0 && len(r.Body) == 0
}

// refuse holds Parse of b against a status that is no request.
func refuse(t *testing.T, what string, b []byte, want int) {
	t.Helper()
	r, n, status := httpd.Parse(b)
	if status != want || n != 0 || !isZero(r) {
		t.Errorf("%.80q (%s): %d, not %d, with %d %v", b, what, status, want, n, r)
	}
}

// take is the request that b is to its end.
func take(t *testing.T, what string, b []byte) api.Request {
	t.Helper()
	r, n, status := httpd.Parse(b)
	if status != 0 || n != len(b) {
		t.Errorf("%.80q (%s): %d, %d of %d bytes", b, what, status, n, len(b))
	}
	return r
}

func TestP8_1Request(t *testing.T) {
	for _, x := range []struct {
		s    string
		want api.Request
	}{
		{"GET /a HTTP/1.1|Host: a||", api.Request{Method: "GET", Path: "/a", Headers: []api.Header{{Name: "host", Value: "a"}}}},
		{"DELETE / HTTP/1.1|HOST:a||", api.Request{Method: "DELETE", Path: "/", Headers: []api.Header{{Name: "host", Value: "a"}}}},
		{"PUT /!~?&#% HTTP/1.1|X-Y_z: A b\tC|x-y_Z:|host: \t a.B:80 \t |x-y_z: \t ||", api.Request{Method: "PUT", Path: "/!~?&#%",
			Headers: []api.Header{{Name: "x-y_z", Value: "A b\tC"}, {Name: "x-y_z"}, {Name: "host", Value: "a.B:80"}, {Name: "x-y_z"}}}},
		{"POST /x HTTP/1.1|content-Length: 3|host: a||a\x00\n", api.Request{Method: "POST", Path: "/x",
			Headers: []api.Header{{Name: "content-length", Value: "3"}, {Name: "host", Value: "a"}}, Body: []byte("a\x00\n")}},
		{"GET /x HTTP/1.1|host: a|Transfer-Encoding: CHUNKED||3|abc|0A|0123456789|00000001|\r|00000000||", api.Request{Method: "GET", Path: "/x",
			Headers: []api.Header{{Name: "host", Value: "a"}, {Name: "transfer-encoding", Value: "CHUNKED"}}, Body: []byte("abc0123456789\r")}},
	} {
		b := lines(x.s)
		if r := take(t, "request", b); !equal(r, x.want) {
			t.Errorf("%q: %v", b, r)
		}
	}
}

// What a chapter's step refuses, step by step.
func TestP8_1FirstLine(t *testing.T) {
	for _, x := range []struct {
		line string
		want int
	}{
		{"", 400}, {" ", 400}, {"  ", 400}, {"GET", 400}, {"GET /", 400}, {"GET / ", 400}, {"GET  HTTP/1.1", 400}, {" / HTTP/1.1", 400},
		{"GET / HTTP/1.1 ", 400}, {" GET / HTTP/1.1", 400}, {"GET  / HTTP/1.1", 400}, {"GET /  HTTP/1.1", 400}, {"GET / a HTTP/1.1", 400},
		{"GET\t/\tHTTP/1.1", 400}, {"GET\t/ HTTP/1.1", 400},
		{"get / HTTP/1.1", 400}, {"GeT / HTTP/1.1", 400}, {"G1T / HTTP/1.1", 400}, {"GET: / HTTP/1.1", 400}, {"G@T / HTTP/1.1", 400}, {"G[T / HTTP/1.1", 400},
		{"ABCDEFGHIJKLMNOP / HTTP/1.1", 501}, {"ABCDEFGHIJKLMNOPQ / HTTP/1.1", 400}, {"A / HTTP/1.1", 501}, {"Z / HTTP/1.1", 501},
		{"GET a HTTP/1.1", 400}, {"GET * HTTP/1.1", 400}, {"GET http://a/ HTTP/1.1", 400}, {"GET /\x1f HTTP/1.1", 400}, {"GET /\x7f HTTP/1.1", 400},
		{"GET /\x80 HTTP/1.1", 400}, {"GET /\xc3\xa4 HTTP/1.1", 400}, {"GET /\t HTTP/1.1", 400}, {"GET /\x00 HTTP/1.1", 400},
		{"GET / HTTP/1.", 400}, {"GET / HTTP/1.12", 400}, {"GET / HTTP/11.1", 400}, {"GET / HTTP/.1", 400}, {"GET / HTTP/1,1", 400}, {"GET / HTTP/a.1", 400}, {"GET / HTTP/1.a", 400},
		{"GET / http/1.1", 400}, {"GET / HTTPS/1.1", 400}, {"GET / HTTP1.1", 400}, {"GET / HTTP/", 400}, {"GET / 1.1", 400}, {"GET / HTTP/1/1", 400}, {"GET / HTTP/:.1", 400},
		{"GET / HTTP/1.0", 505}, {"GET / HTTP/1.2", 505}, {"GET / HTTP/2.0", 505}, {"GET / HTTP/0.9", 505}, {"GET / HTTP/0.1", 505}, {"GET / HTTP/9.9", 505},
		{"PATCH / HTTP/1.1", 501}, {"HEAD / HTTP/1.1", 501}, {"OPTIONS / HTTP/1.1", 501}, {"GETS / HTTP/1.1", 501}, {"GE / HTTP/1.1", 501}, {"TEG / HTTP/1.1", 501},
		{"GET /" + strings.Repeat("a", 1023) + " HTTP/1.1", 0}, {"GET /" + strings.Repeat("a", 1024) + " HTTP/1.1", 414},
		// the first that applies
		{"PATCH / HTTP/1.0", 505}, {"PATCH /" + strings.Repeat("a", 1024) + " HTTP/1.1", 501}, {"GET /" + strings.Repeat("a", 1024) + " HTTP/1.0", 505},
		{"get / HTTP/1.0", 400}, {"PATCH a HTTP/1.1", 400}, {"PATCH / HTTP/1", 400}, {"GET " + strings.Repeat("a", 1025) + " HTTP/1.1", 400},
		{"GET / HTTP/1.1", 0}, {"PUT / HTTP/1.1", 0}, {"POST / HTTP/1.1", 0}, {"DELETE / HTTP/1.1", 0},
	} {
		b := append([]byte(x.line), "\r\nhost: a\r\n\r\n"...)
		if x.want == 0 {
			take(t, "first line", b)
			continue
		}
		refuse(t, "first line", b, x.want)
		if x.line == "" {
			continue
		}
		for _, behind := range []string{"", "host\r\n", "host: a\r\nhost: b\r\n", "host: a\r\ntransfer-encoding: b\r\n", strings.Repeat("a: b\r\n", 40)} {
			refuse(t, "first line ahead of all others", []byte(x.line+"\r\n"+behind+"\r\n"), x.want)
		}
	}
}

func TestP8_1Head(t *testing.T) {
	refuse(t, "nothing", nil, 1)
	refuse(t, "nothing", []byte{}, 1)
	for _, s := range []string{"G", "\n", "\r", "\r\n", "\r\n\r", "\x00", "  ", "GET / HTTP/1.0\r\n\r", "\n\n\n\n", "get\n\r\n\r"} {
		refuse(t, "no end yet", []byte(s), 1)
	}
	for _, s := range []string{
		"||", "|GET / HTTP/1.1|host: a||", "GET / HTTP/1.1\r|host: a||", "GET / HTTP/1.1\n|host: a||", "GET / HTTP/1.1|host: a\r||", "GET / HTTP/1.1|host: a\n||",
		"GET / HTTP/1.1\nhost: a||", "GET / HTTP/1.1\rhost: a||", "GET / HTTP/1.1|host: a\n\rb: c||", "\r||", "\n||", "GET / HTTP/1.1|\nhost: a||", "GET / HTTP/1.1|\rhost: a||",
		// ahead of what else refuses it
		"GET / HTTP/1.0|host: a\n||", "PATCH / HTTP/1.1|host: a\rb||", "GET / HTTP/1.1|host: a|transfer-encoding: \ra||",
		"GET / HTTP/1.1|" + strings.Repeat("a: b|", 33) + "host: a\n||",
	} {
		refuse(t, "CR, LF", lines(s), 400)
	}
	begin := "GET / HTTP/1.1\r\nhost: a\r\na: "
	exact := begin + strings.Repeat("x", api.MaxHead-len(begin))
	take(t, "a head of 8192 bytes", []byte(exact+"\r\n\r\n"))
	for n := range 4 {
		refuse(t, "8192 bytes and some of its end", []byte(exact + "\r\n\r\n")[:len(exact)+n], 1)
		refuse(t, "8192 bytes and others", []byte(exact + "xxx")[:len(exact)+n], 1)
	}
	for _, behind := range []string{"xxxx", "x\r\n\r\n", "\r\n\rx", "xxx\r\n\r\n", "xxxx\r\n\r\n", "xxxxxxxxx\r\n\r\n", "\r\nx\r\n\r\n"} {
		refuse(t, "too long", []byte(exact+behind), 431)
	}
	refuse(t, "ahead of all others", []byte(strings.Repeat("\n", api.MaxHead+1)+"\r\n\r\n"), 431)
	refuse(t, "and of CR and LF", []byte(strings.Repeat("\n", api.MaxHead)+"\r\n\r\n"), 400)
	refuse(t, "nothing but this", bytes.Repeat([]byte("a"), api.MaxHead+3), 1)
	refuse(t, "nothing but this", bytes.Repeat([]byte("a"), api.MaxHead+4), 431)
	refuse(t, "a long one", bytes.Repeat([]byte("\r\n."), 1<<16), 431)
}

func TestP8_1Headers(t *testing.T) {
	token := "!#$%&'*+-.^_`|~019AZaz"
	for c := range 256 {
		name, value := "n"+string([]byte{byte(c)})+"n", "v"+string([]byte{byte(c)})+"v"
		b := []byte("GET / HTTP/1.1\r\nhost: a\r\n" + name + ": x\r\n\r\n")
		isName := strings.IndexByte(token, byte(c)) >= 0 || '0' <= c && c <= '9' || 'a' <= c && c <= 'z' || 'A' <= c && c <= 'Z'
		if isName {
			take(t, "a name", b)
		} else if c != ':' { // that one ends the name
			refuse(t, "a name", b, 400)
		}
		b = []byte("GET / HTTP/1.1\r\nhost: a\r\nn: " + value + "\r\n\r\n")
		if c == 9 || 32 <= c && c <= 126 {
			if r := take(t, "a value", b); len(r.Headers) != 2 || r.Headers[1].Value != value {
				t.Errorf("%q: %v", b, r)
			}
		} else {
			refuse(t, "a value", b, 400)
		}
	}
	for _, s := range []string{"a", ":", ": b", " a: b", "a : b", "a\t: b", "\ta: b", "a b: c", "\x00: b", "a: \x00", "a: b\x7f", "a: \xff", " ", "\t", strings.Repeat("a", 65) + ": b"} {
		refuse(t, "a header", []byte("GET / HTTP/1.1\r\nhost: a\r\n"+s+"\r\n\r\n"), 400)
		refuse(t, "a header ahead", []byte("GET / HTTP/1.1\r\n"+s+"\r\nhost: a\r\n\r\n"), 400)
		refuse(t, "a header, ahead of the body's form", []byte("GET / HTTP/1.1\r\n"+s+"\r\ntransfer-encoding: x\r\n\r\n"), 400)
	}
	take(t, "a long name", []byte("GET / HTTP/1.1\r\nhost: a\r\n"+strings.Repeat("a", 64)+": b\r\n\r\n"))
	for _, x := range []struct{ line, value string }{
		{"a:b", "b"}, {"a: b", "b"}, {"a:   b", "b"}, {"a:\tb", "b"}, {"a: \t \tb \t ", "b"}, {"a:", ""}, {"a: ", ""}, {"a: \t ", ""}, {"a: b c", "b c"}, {"a: b  \t  c ", "b  \t  c"}, {"a: :", ":"}, {"a::", ":"}, {"a:b:c", "b:c"},
	} {
		r := take(t, "a header", []byte("GET / HTTP/1.1\r\nhost: a\r\n"+x.line+"\r\n\r\n"))
		if want := []api.Header{{Name: "host", Value: "a"}, {Name: "a", Value: x.value}}; !slices.Equal(r.Headers, want) {
			t.Errorf("%q: %v", x.line, r.Headers)
		}
	}
	for _, x := range []struct {
		ahead string
		want  int
	}{
		{strings.Repeat("a: b|", 31) + "host: a|", 0}, {strings.Repeat("a: b|", 32) + "host: a|", 431}, {"host: a|" + strings.Repeat("a: b|", 31), 0}, {"host: a|" + strings.Repeat("a: b|", 32), 431},
		{strings.Repeat("a: b|", 32) + "bad|", 431}, {strings.Repeat("a: b|", 31) + "bad|", 400}, {"bad|" + strings.Repeat("a: b|", 40), 400}, {strings.Repeat("a: b|", 31) + "bad|host: a|", 400},
		{strings.Repeat("a: b|", 32), 400}, {strings.Repeat("a: b|", 33), 431}, {strings.Repeat("transfer-encoding: b|", 33), 431},
	} {
		b := lines("GET / HTTP/1.1|" + x.ahead + "|")
		if x.want == 0 {
			take(t, "32 headers", b)
		} else {
			refuse(t, "headers", b, x.want)
		}
	}
}

func TestP8_1BodyForm(t *testing.T) {
	for _, x := range []struct {
		headers string
		want    int
	}{
		{"transfer-encoding: chunked|transfer-encoding: chunked|host: a|", 501}, {"transfer-encoding: gzip|host: a|", 501}, {"transfer-encoding:|host: a|", 501},
		{"transfer-encoding: chunked, chunked|host: a|", 501}, {"transfer-encoding: gzip, chunked|host: a|", 501}, {"transfer-encoding: chunked;a=b|host: a|", 501}, {"transfer-encoding: identity|host: a|", 501},
		{"Transfer-Encoding: Chunked|TRANSFER-ENCODING: chunked|host: a|", 501}, {"transfer-encoding: x|transfer-encoding: y|transfer-encoding: z|host: a|", 501},
		{"", 400}, {"host:|", 400}, {"host: \t|", 400}, {"host: a|host: a|", 400}, {"host: a|Host: b|", 400}, {"host:|host: a|", 400}, {"host: a|host:|", 400}, {"a: b|", 400}, {"hosts: a|", 400}, {"host: a|host: a|host: a|", 400},
		{"host: a|transfer-encoding: chunked|content-length: 0|", 400}, {"host: a|content-length: 5|transfer-encoding: Chunked|", 400}, {"host: a|content-length: x|transfer-encoding: chunked|", 400},
		{"host: a|content-length: 0|content-length: 0|", 400}, {"host: a|content-length: 0|Content-Length: 1|content-length: 2|", 400},
		{"host: a|content-length:|", 400}, {"host: a|content-length: x|", 400}, {"host: a|content-length: 1x|", 400}, {"host: a|content-length: -1|", 400}, {"host: a|content-length: +1|", 400}, {"host: a|content-length: 1 1|", 400},
		{"host: a|content-length: 0x1|", 400}, {"host: a|content-length: 1,1|", 400}, {"host: a|content-length: 1.0|", 400}, {"host: a|content-length: 0000000001|", 400}, {"host: a|content-length: 1234567890|", 400}, {"host: a|content-length: 99999999999999999999|", 400},
		{"host: a|content-length: /|", 400}, {"host: a|content-length: 1:|", 400},
		{"host: a|content-length: 32769|", 413}, {"host: a|content-length: 999999999|", 413}, {"host: a|content-length: 000032769|", 413},
		// the first that applies
		{"transfer-encoding: gzip|", 501}, {"transfer-encoding: gzip|content-length: x|", 501}, {"transfer-encoding: chunked|transfer-encoding: chunked|content-length: x|host: a|host: b|", 501},
		{"content-length: 99999|", 400}, {"host: a|host: b|content-length: 99999|", 400}, {"host: a|content-length: 99999|content-length: 99999|", 400}, {"host: a|transfer-encoding: chunked|content-length: 99999|", 400},
		// and those that say that more is to come
		{"host: a|content-length: 1|", 1}, {"host: a|content-length: 32768|", 1}, {"host: a|content-length: 000000001|", 1}, {"host: a|transfer-encoding: chunked|", 1}, {"host: a|transfer-encoding: \t cHuNkEd \t|", 1},
		{"host: a|", 0}, {"host: a|content-length: 0|", 0}, {"host: a|content-length: 000000000|", 0}, {"host: a|content-lengths: 5|transfer-encodings: 6|", 0},
	} {
		b := lines("POST / HTTP/1.1|" + x.headers + "|")
		if x.want == 0 {
			take(t, "body's form", b)
			continue
		}
		refuse(t, "body's form", b, x.want)
		if x.want != 1 {
			refuse(t, "body's form, with bytes", append(b, "0\r\n\r\nabc"...), x.want)
		}
	}
}

func TestP8_1Sized(t *testing.T) {
	all := bytes.Repeat([]byte("\x00\r\nab"), 7000)
	for _, n := range []int{0, 1, 2, 100, api.MaxBody - 1, api.MaxBody} {
		head := fmt.Sprintf("PUT / HTTP/1.1\r\nhost: a\r\ncontent-length: %d\r\n\r\n", n)
		if r := take(t, "a body", append([]byte(head), all[:n]...)); !bytes.Equal(r.Body, all[:n]) {
			t.Errorf("%d bytes: %d others", n, len(r.Body))
		}
		if n > 0 {
			refuse(t, "too few", append([]byte(head), all[:n-1]...), 1)
		}
		r, size, status := httpd.Parse(append([]byte(head), all[:n+9]...))
		if status != 0 || size != len(head)+n || !bytes.Equal(r.Body, all[:n]) {
			t.Errorf("%d bytes and others: %d %d", n, status, size)
		}
	}
	r, n, status := httpd.Parse([]byte("GET / HTTP/1.1\r\nhost: a\r\n\r\nabc"))
	if status != 0 || n != 27 || len(r.Body) != 0 {
		t.Error("without content-length", n, status, r)
	}
	r = take(t, "noughts ahead", []byte("PUT / HTTP/1.1\r\nhost: a\r\ncontent-length: 000000012\r\n\r\n0123456789ab"))
	if string(r.Body) != "0123456789ab" {
		t.Error(r)
	}
}

func TestP8_1Chunked(t *testing.T) {
	const head = "PUT / HTTP/1.1\r\nhost: a\r\ntransfer-encoding: chunked\r\n\r\n"
	full := strings.Repeat("x", api.MaxBody)
	for _, x := range []struct {
		s    string
		want int
		body string
	}{
		{"0||", 0, ""}, {"00000000||", 0, ""}, {"1|a|0||", 0, "a"}, {"a|0123456789|0||", 0, "0123456789"}, {"A|0123456789|0||", 0, "0123456789"}, {"f|0123456789abcde|0||", 0, "0123456789abcde"}, {"F|0123456789abcde|0||", 0, "0123456789abcde"},
		{"10|0123456789abcdef|0||", 0, "0123456789abcdef"}, {"0000001a|abcdefghijklmnopqrstuvwxyz|0||", 0, "abcdefghijklmnopqrstuvwxyz"}, {"1|a|2|bc|3|def|0||", 0, "abcdef"}, {"4||||0||", 0, "\r\n\r\n"}, {"5|0|||0||", 0, "0\r\n\r\n"},
		{"8000|" + full + "|0||", 0, full}, {"7fff|" + full[1:] + "|1|y|0||", 0, full[1:] + "y"}, {"7FFF|" + full[1:] + "|1|y|", 1, ""},
		{"", 1, ""}, {"0", 1, ""}, {"0\r", 1, ""}, {"0|", 1, ""}, {"0|\r", 1, ""}, {"12345678", 1, ""}, {"1|", 1, ""}, {"1|a", 1, ""}, {"1|a\r", 1, ""}, {"1|a|", 1, ""}, {"1|a|0", 1, ""}, {"1|a|0|", 1, ""}, {"2|a", 1, ""}, {"8000|", 1, ""}, {"8001", 1, ""}, {"8001\r", 1, ""}, {"ffffffff\r", 1, ""},
		{"\r", 400, ""}, {"|", 400, ""}, {"\n", 400, ""}, {"g", 400, ""}, {"G", 400, ""}, {"x", 400, ""}, {"-", 400, ""}, {"+1", 400, ""}, {" ", 400, ""}, {" 1", 400, ""}, {"1 ", 400, ""}, {"1;", 400, ""}, {"1;a=b|a|0||", 400, ""}, {"0x1", 400, ""}, {"/", 400, ""}, {":", 400, ""}, {"@", 400, ""}, {"`", 400, ""},
		{"123456789", 400, ""}, {"000000000", 400, ""}, {"00000000g", 400, ""}, {"1\n", 400, ""}, {"1\ra", 400, ""}, {"1\r\r", 400, ""}, {"1|ab", 400, ""}, {"1|a\n", 400, ""}, {"1|a\ra", 400, ""}, {"1|a\r\r", 400, ""}, {"1|a||", 400, ""}, {"1|a|g", 400, ""},
		{"0|a", 400, ""}, {"0|\n", 400, ""}, {"0|\ra", 400, ""}, {"0|\r\r", 400, ""}, {"0|a: b||", 400, ""}, {"0|0", 400, ""}, {"1|a|0|x", 400, ""}, {"2|a\r", 1, ""}, {"2|a|", 400, ""}, {"2|abc", 400, ""},
		{"8001|", 413, ""}, {"8001\r\n", 413, ""}, {"ffffffff|", 413, ""}, {"FFFFFFFF|", 413, ""}, {"80000000|", 413, ""}, {"7fffffff|", 413, ""}, {"00010000|", 413, ""}, {"8000|" + full + "|1|", 413, ""}, {"8000|" + full + "|1", 1, ""}, {"8000|" + full + "|ffffffff|", 413, ""}, {"7fff|" + full[1:] + "|2|", 413, ""}, {"1|a|8000|", 413, ""}, {"1|a|7fff|", 1, ""}, {"1|a|fffffffe|", 413, ""},
		{"8001|g", 413, ""}, {"8001\rg", 400, ""},
	} {
		b := append([]byte(head), lines(x.s)...)
		if x.want != 0 {
			refuse(t, "chunks "+x.s[:min(len(x.s), 20)], b, x.want)
			continue
		}
		if r := take(t, "chunks", b); string(r.Body) != x.body {
			t.Errorf("%.50q: %.50q", x.s, r.Body)
		}
	}
	b := []byte(head + "3\r\nabc\r\n0\r\n\r\n")
	if _, n, status := httpd.Parse(append(b, "0\r\n\r\n"...)); status != 0 || n != len(b) {
		t.Error("bytes behind the last chunk", n, status)
	}
}

func TestP8_1Memory(t *testing.T) {
	room := []byte("PUT /a HTTP/1.1\r\nhost: a\r\ncontent-length: 3\r\n\r\nabcbehind it")
	old := slices.Clone(room)
	r, n, status := httpd.Parse(room[:len(room)-9])
	if status != 0 || n != len(room)-9 || !bytes.Equal(room, old) {
		t.Fatal(n, status)
	}
	clear(room)
	if r.Method != "PUT" || r.Path != "/a" || r.Headers[0] != (api.Header{Name: "host", Value: "a"}) || string(r.Body) != "abc" {
		t.Error("what was handed in is kept:", r)
	}
	_ = append(r.Body, "xyz"...)
	if !bytes.Equal(room, make([]byte, len(room))) {
		t.Error("a body's room is that of the argument")
	}
}

func TestP8_3Keeps(t *testing.T) {
	for _, x := range []struct {
		headers []api.Header
		want    bool
	}{
		{nil, true}, {[]api.Header{}, true}, {[]api.Header{{Name: "connection", Value: "close"}}, false}, {[]api.Header{{Name: "CONNECTION", Value: "CLOSE"}}, false}, {[]api.Header{{Name: "ConnectioN", Value: "cLose"}}, false},
		{[]api.Header{{Name: "connection", Value: "keep-alive"}}, true}, {[]api.Header{{Name: "connection"}}, true}, {[]api.Header{{Name: "connections", Value: "close"}}, true}, {[]api.Header{{Name: "close", Value: "connection"}}, true},
		{[]api.Header{{Name: "connection", Value: "keep-alive"}, {Name: "a"}, {Name: "connection", Value: "close"}}, false}, {[]api.Header{{Name: "connection", Value: "close"}, {Name: "connection", Value: "keep-alive"}}, false},
		{[]api.Header{{Name: "connection", Value: "close, a"}}, true}, {[]api.Header{{Name: "connection", Value: " close"}}, true}, {[]api.Header{{Name: "connection", Value: "clo\u017fe"}}, true}, {[]api.Header{{Name: "\u0441onnection", Value: "close"}}, true},
	} {
		if httpd.Keeps(api.Request{Headers: x.headers}) != x.want {
			t.Errorf("%v: not %v", x.headers, x.want)
		}
	}
}

func TestP8_3Find(t *testing.T) {
	l := []api.Header{{Name: "a", Value: "1"}, {Name: "B", Value: "2"}, {Name: "b", Value: "3"}, {Name: "", Value: "4"}, {Name: "e", Value: ""}, {Name: "K@[`{", Value: "5"}, {Name: "\xff\xc4X", Value: "6"}, {Name: "sS", Value: "7"}}
	for _, x := range []struct {
		name, value string
		ok          bool
	}{
		{"a", "1", true}, {"A", "1", true}, {"b", "2", true}, {"B", "2", true}, {"", "4", true}, {"e", "", true}, {"E", "", true}, {"c", "", false}, {"aa", "", false},
		{"k@[`{", "5", true}, {"K`{@[", "", false}, {"\u212a@[`{", "", false}, {"\xff\xc4x", "6", true}, {"\xff\xe4x", "", false}, {"\xfe\xc4x", "", false}, {"\u017fs", "", false}, {"ss", "7", true},
	} {
		if value, ok := httpd.Find(l, x.name); value != x.value || ok != x.ok {
			t.Errorf("%q: %q %v", x.name, value, ok)
		}
	}
	if value, ok := httpd.Find(nil, ""); value != "" || ok {
		t.Error("of none")
	}
}

func TestP8_3Print(t *testing.T) {
	host := api.Header{Name: "host", Value: "a"}
	three := api.Header{Name: "content-length", Value: "3"}
	for _, x := range []struct {
		r    api.Request
		want string
	}{
		{api.Request{Method: "GET", Path: "/", Headers: []api.Header{host}}, "GET / HTTP/1.1|host: a||"},
		{api.Request{Method: "GET", Path: "/", Headers: []api.Header{host}, Body: []byte{}}, "GET / HTTP/1.1|host: a||"},
		{api.Request{Method: "POST", Path: "/x", Headers: []api.Header{{Name: "e"}, three, host, {Name: "e", Value: "b c"}}, Body: []byte("abc")}, "POST /x HTTP/1.1|e: |content-length: 3|host: a|e: b c||abc"},
		{api.Request{Method: "PUT", Path: "/", Headers: []api.Header{host, {Name: "content-length", Value: "003"}}, Body: []byte("|||")}, "PUT / HTTP/1.1|host: a|content-length: 003||\x00\x00\x00"},
	} {
		want := bytes.ReplaceAll(lines(x.want), []byte{0}, []byte("|"))
		if b, e := httpd.Print(x.r); e != api.OK || !bytes.Equal(b, want) {
			t.Errorf("%v: %q %d", x.r, b, e)
		}
	}
	for i, r := range []api.Request{
		{}, {Method: "GET", Path: "/"}, {Method: "PATCH", Path: "/", Headers: []api.Header{host}}, {Method: "get", Path: "/", Headers: []api.Header{host}}, {Method: "GET", Headers: []api.Header{host}}, {Method: "GET", Path: "a", Headers: []api.Header{host}},
		{Method: "GET", Path: "/ ", Headers: []api.Header{host}}, {Method: "GET", Path: "/a HTTP/1.1\r\na: b", Headers: []api.Header{host}}, {Method: "GET", Path: "/" + strings.Repeat("a", 1024), Headers: []api.Header{host}},
		{Method: "GET", Path: "/", Headers: []api.Header{{Name: "Host", Value: "a"}}}, {Method: "GET", Path: "/", Headers: []api.Header{host, host}}, {Method: "GET", Path: "/", Headers: []api.Header{{Name: "host", Value: " a"}}}, {Method: "GET", Path: "/", Headers: []api.Header{{Name: "host", Value: "a\t"}}},
		{Method: "GET", Path: "/", Headers: []api.Header{{Name: "host", Value: "a\r\nb: c"}}}, {Method: "GET", Path: "/", Headers: []api.Header{{Name: "host", Value: "a\r\n\r\n"}}}, {Method: "GET", Path: "/", Headers: []api.Header{host, {Name: "", Value: "b"}}}, {Method: "GET", Path: "/", Headers: []api.Header{host, {Name: "a:", Value: "b"}}}, {Method: "GET", Path: "/", Headers: []api.Header{host, {Name: "a: b\r\nc", Value: "d"}}},
		{Method: "GET", Path: "/", Headers: []api.Header{host}, Body: []byte("a")}, {Method: "GET", Path: "/", Headers: []api.Header{host, three}}, {Method: "GET", Path: "/", Headers: []api.Header{host, three}, Body: []byte("ab")}, {Method: "GET", Path: "/", Headers: []api.Header{host, three}, Body: []byte("abcd")},
		{Method: "GET", Path: "/", Headers: []api.Header{host, {Name: "transfer-encoding", Value: "chunked"}}}, {Method: "GET", Path: "/", Headers: []api.Header{host, {Name: "transfer-encoding", Value: "chunked"}}, Body: []byte("0\r\n\r\n")},
		{Method: "GET", Path: "/", Headers: append(slices.Repeat([]api.Header{{Name: "a"}}, 32), host)}, {Method: "GET", Path: "/", Headers: []api.Header{host, {Name: "a", Value: strings.Repeat("a", api.MaxHead)}}},
		{Method: "GET", Path: "/", Headers: []api.Header{host, {Name: "content-length", Value: "32769"}}, Body: make([]byte, 32769)},
	} {
		if b, e := httpd.Print(r); e != api.ErrArg || len(b) != 0 {
			t.Errorf("%d: %.100q %d", i, b, e)
		}
	}
}

func TestP8_3Memory(t *testing.T) {
	room := []byte("abcbehind")
	r := api.Request{Method: "PUT", Path: "/", Headers: []api.Header{{Name: "host", Value: "a"}, {Name: "content-length", Value: "3"}, {Name: "behind"}}[:2], Body: room[:3]}
	b, _ := httpd.Print(r)
	clear(b[:cap(b)])
	if string(room) != "abcbehind" || !reflect.DeepEqual(r.Headers[:3], []api.Header{{Name: "host", Value: "a"}, {Name: "content-length", Value: "3"}, {Name: "behind"}}) {
		t.Error("changed:", string(room), r.Headers[:3])
	}
}
