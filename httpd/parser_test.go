package httpd_test

import (
	"bytes"
	"fmt"
	"slices"
	"strings"
	"testing"

	"blotter/api"
	"blotter/httpd"
)

const plain = "GET / HTTP/1.1\r\nhost: a\r\n\r\n"

// feed hands bytes over that there is room for.
func feed(t *testing.T, p *httpd.Parser, s string) {
	t.Helper()
	if e := p.Feed([]byte(s)); e != api.OK {
		t.Fatalf("feeding %.50q: %d", s, e)
	}
}

func TestP8_2Unmade(t *testing.T) {
	for _, p := range []*httpd.Parser{nil, {}} {
		if p.Feed(nil) != api.ErrNil || p.Feed([]byte(plain)) != api.ErrNil || p.Feed(make([]byte, api.MaxWait+1)) != api.ErrNil {
			t.Error("Feed")
		}
		if r, status := p.Next(); status != 1 || !isZero(r) {
			t.Error("Next", r, status)
		}
		if p.Waiting() != 0 || len(p.Rest()) != 0 {
			t.Error("Waiting, Rest")
		}
	}
}

func TestP8_2New(t *testing.T) {
	p := httpd.New()
	if r, status := p.Next(); status != 1 || !isZero(r) || p.Waiting() != 0 || len(p.Rest()) != 0 {
		t.Error(r, status)
	}
	if p.Feed(nil) != api.OK || p.Feed([]byte{}) != api.OK || p.Waiting() != 0 {
		t.Error("nothing was handed over")
	}
}

func TestP8_2Next(t *testing.T) {
	p := httpd.New()
	put := "PUT /x HTTP/1.1\r\nhost: b\r\ncontent-length: 2\r\n\r\nhi"
	feed(t, p, plain+put+"GET /y")
	if p.Waiting() != len(plain)+len(put)+6 {
		t.Error("waiting", p.Waiting())
	}
	if r, status := p.Next(); status != 0 || r.Method != "GET" || r.Path != "/" || p.Waiting() != len(put)+6 {
		t.Error("first", r, status)
	}
	if r, status := p.Next(); status != 0 || r.Method != "PUT" || string(r.Body) != "hi" || p.Waiting() != 6 {
		t.Error("second", r, status)
	}
	for range 3 {
		if r, status := p.Next(); status != 1 || !isZero(r) || p.Waiting() != 6 {
			t.Error("third", r, status)
		}
	}
	feed(t, p, " HTTP/1.1\r\nhost: c\r\n\r\n")
	if r, status := p.Next(); status != 0 || r.Path != "/y" || p.Waiting() != 0 {
		t.Error("third", r, status)
	}
	if r, status := p.Next(); status != 1 || !isZero(r) {
		t.Error("no fourth", r, status)
	}
}

func TestP8_2Refused(t *testing.T) {
	for s, want := range map[string]int{
		"||": 400, "GET / HTTP/1.0|host: a||": 505, "PATCH / HTTP/1.1|host: a||": 501, "GET /" + strings.Repeat("a", 1024) + " HTTP/1.1|host: a||": 414,
		strings.Repeat("a", api.MaxHead+4): 431, "PUT / HTTP/1.1|host: a|content-length: 32769||": 413, "PUT / HTTP/1.1|host: a|transfer-encoding: chunked||8001|": 413,
	} {
		p := httpd.New()
		feed(t, p, plain)
		feed(t, p, string(lines(s))+plain)
		if e := p.Feed(make([]byte, api.MaxWait)); e != api.ErrFull {
			t.Errorf("%.50q: not refused yet: %d", s, e)
		}
		if _, status := p.Next(); status != 0 {
			t.Errorf("%.50q: the request ahead: %d", s, status)
		}
		for range 3 {
			if r, status := p.Next(); status != want || !isZero(r) {
				t.Errorf("%.50q: %d %v", s, status, r)
			}
			if p.Waiting() != 0 || len(p.Rest()) != 0 {
				t.Errorf("%.50q: some wait", s)
			}
			if p.Feed(nil) != api.ErrShut || p.Feed([]byte(plain)) != api.ErrShut || p.Feed(make([]byte, api.MaxWait+1)) != api.ErrShut {
				t.Errorf("%.50q: more is taken", s)
			}
		}
	}
}

func TestP8_2Full(t *testing.T) {
	p := httpd.New()
	if e := p.Feed(make([]byte, api.MaxWait+1)); e != api.ErrFull || p.Waiting() != 0 {
		t.Error("too many at once", e)
	}
	head := "PUT / HTTP/1.1\r\nhost: a\r\ncontent-length: 32768\r\n\r\n"
	feed(t, p, head)
	if _, status := p.Next(); status != 1 {
		t.Error(status)
	}
	if e := p.Feed(make([]byte, api.MaxWait-len(head)+1)); e != api.ErrFull || p.Waiting() != len(head) {
		t.Error("one too many", e)
	}
	feed(t, p, strings.Repeat("x", api.MaxWait-len(head)))
	if e := p.Feed([]byte("x")); e != api.ErrFull || p.Waiting() != api.MaxWait {
		t.Error("it is full", e)
	}
	if e := p.Feed(nil); e != api.OK {
		t.Error("no more", e)
	}
	r, status := p.Next()
	if status != 0 || len(r.Body) != api.MaxBody || p.Waiting() != api.MaxWait-len(head)-api.MaxBody {
		t.Error("a full one is read", status, len(r.Body))
	}
	feed(t, p, strings.Repeat("x", api.MaxWait-p.Waiting()))
}

// One whose chunks are more than may wait never ends, and is not refused.
func TestP8_2Stuck(t *testing.T) {
	p := httpd.New()
	feed(t, p, "PUT / HTTP/1.1\r\nhost: a\r\ntransfer-encoding: chunked\r\n\r\n")
	for p.Feed([]byte("00000001\r\nx\r\n")) == api.OK {
		if r, status := p.Next(); status != 1 || !isZero(r) {
			t.Fatal(r, status)
		}
	}
	if w := p.Waiting(); w > api.MaxWait || w <= api.MaxWait-13 {
		t.Error(w)
	}
}

func TestP8_2Rest(t *testing.T) {
	p := httpd.New()
	feed(t, p, plain+"GET / HTTP/1.1\r\nhost: b\r\nconte")
	if _, status := p.Next(); status != 0 {
		t.Fatal(status)
	}
	p.Next()
	if rest := p.Rest(); string(rest) != "GET / HTTP/1.1\r\nhost: b\r\nconte" || p.Waiting() != 0 || len(p.Rest()) != 0 {
		t.Errorf("%q", rest)
	}
	feed(t, p, "nt-length: 5\r\n\r\n")
	if _, status := p.Next(); status != 400 {
		t.Error("what was taken off is still read:", status)
	}

	p = httpd.New()
	feed(t, p, plain[:20])
	p.Next()
	p.Rest()
	feed(t, p, plain)
	if _, status := p.Next(); status != 0 {
		t.Error("it does not begin anew:", status)
	}

	p = httpd.New()
	feed(t, p, plain+plain)
	if rest := p.Rest(); string(rest) != plain+plain {
		t.Errorf("ahead of any Next: %q", rest)
	}
	if r, status := p.Next(); status != 1 || !isZero(r) {
		t.Error(r, status)
	}
}

func TestP8_2Memory(t *testing.T) {
	p, other := httpd.New(), httpd.New()
	put := "PUT /x HTTP/1.1\r\nhost: b\r\ncontent-length: 2\r\n\r\nhi"
	room := []byte(put + put + "behind")
	b := room[:len(put)+len(put)]
	if p.Feed(b) != api.OK || string(room) != put+put+"behind" {
		t.Fatal("Feed")
	}
	clear(room)
	first, status := p.Next()
	if status != 0 || first.Method != "PUT" || string(first.Body) != "hi" || first.Headers[0] != (api.Header{Name: "host", Value: "b"}) {
		t.Fatal("what was handed in is kept", first, status)
	}
	clear(first.Body[:cap(first.Body)])
	clear(first.Headers[:cap(first.Headers)])
	second, status := p.Next()
	if status != 0 || string(second.Body) != "hi" || second.Headers[0].Value != "b" {
		t.Error("an answer is the parser's memory", second, status)
	}
	clear(second.Body[:cap(second.Body)])
	feed(t, p, "GET / HT")
	rest := p.Rest()
	kept := slices.Clone(rest)
	feed(t, p, plain)
	if !bytes.Equal(rest, kept) {
		t.Errorf("a rest has changed: %q", rest)
	}
	clear(rest[:cap(rest)])
	if _, status := p.Next(); status != 0 {
		t.Error("a rest is the parser's memory", status)
	}
	if other.Waiting() != 0 {
		t.Error("two parsers know of one another")
	}
}

// In whichever pieces they come: what is told is what Parse tells of all of them, one behind the other.
func TestP8_7Pieces(t *testing.T) {
	for seed := range int64(400) {
		g := newMaker(seed)
		var all []byte
		for range 1 + g.Intn(4) {
			all = append(all, g.bytes()...)
		}
		if len(all) > api.MaxWait {
			continue
		}
		want, wantStatus, wantRest := told(all)
		for range 3 {
			most := []int{1, 2, 7, 100, 5000}[g.Intn(5)]
			p := httpd.New()
			var got []api.Request
			status := 1
			for b := all; status == 1 && len(b) > 0; {
				n := min(1+g.Intn(most), len(b))
				feed(t, p, string(b[:n]))
				b = b[n:]
				if g.Intn(3) > 0 || len(b) == 0 {
					var more []api.Request
					more, status = drain(p)
					got = append(got, more...)
				}
			}
			if !slices.EqualFunc(got, want, equal) || status != wantStatus {
				t.Fatalf("seed %d: %d requests and %d, not %d and %d", seed, len(got), status, len(want), wantStatus)
			}
			if rest := p.Rest(); !bytes.Equal(rest, wantRest) {
				t.Fatalf("seed %d: the rest %q, not %q", seed, rest, wantRest)
			}
		}
	}
}

// drain takes off all requests that are there.
func drain(p *httpd.Parser) ([]api.Request, int) {
	var l []api.Request
	for {
		r, status := p.Next()
		if status != 0 {
			return l, status
		}
		l = append(l, r)
	}
}

// told is what a parser must tell of these bytes, and what waits then.
func told(b []byte) (l []api.Request, status int, rest []byte) {
	for {
		r, n, status := expected(b)
		switch status {
		case 0:
			l, b = append(l, r), b[n:]
		case 1:
			return l, 1, b
		default:
			return l, status, nil
		}
	}
}

// A byte at a time is no reason to look at all that waits each time.
func TestP8_7ByteByByte(t *testing.T) {
	var b strings.Builder
	b.WriteString("PUT / HTTP/1.1\r\nhost: a\r\ntransfer-encoding: chunked\r\n\r\n")
	for i := range 8000 {
		fmt.Fprintf(&b, "1\r\n%d\r\n", i%10)
	}
	b.WriteString("0\r\n\r\n")
	p, s := httpd.New(), b.String()
	for i := range len(s) {
		if r, status := p.Next(); status != 1 || !isZero(r) {
			t.Fatal(i, status)
		}
		feed(t, p, s[i:i+1])
	}
	if r, status := p.Next(); status != 0 || string(r.Body) != strings.Repeat("0123456789", 800) || p.Waiting() != 0 {
		t.Error(status, len(r.Body))
	}
}
