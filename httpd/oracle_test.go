package httpd_test

import (
	"bytes"
	"fmt"
	"math/rand"
	"regexp"
	"slices"
	"strconv"
	"strings"
	"testing"

	"blotter/api"
	"blotter/httpd"
)

var (
	lineForm    = regexp.MustCompile(`^([A-Z]{1,16}) (/[!-~]*) (HTTP/[0-9]\.[0-9])$`)
	headerForm  = regexp.MustCompile("^([A-Za-z0-9!#$%&'*+\\-.^_`|~]{1,64}):[ \t]*((?:[!-~](?:[ \t!-~]*[!-~])?)?)[ \t]*$")
	lengthForm  = regexp.MustCompile(`^[0-9]{1,9}$`)
	chunkForm   = regexp.MustCompile(`^([0-9a-fA-F]{1,8})\r\n`)
	chunkBegin  = regexp.MustCompile(`^([0-9a-fA-F]{0,8}|[0-9a-fA-F]{1,8}\r)$`)
	knownMethod = regexp.MustCompile(`^(GET|PUT|POST|DELETE)$`)
)

// expected is what Parse answers, worked out in another way: on the whole, by forms.
func expected(b []byte) (api.Request, int, int) {
	none := api.Request{}
	head, behind, found := strings.Cut(string(b), "\r\n\r\n")
	if found && len(head) > 8192 || !found && len(b) >= 8196 {
		return none, 0, 431
	}
	if !found {
		return none, 0, 1
	}
	if strings.ContainsAny(strings.ReplaceAll(head, "\r\n", ""), "\r\n") || strings.Contains(head, "\r\r\n") || strings.Contains(head, "\r\n\n") {
		return none, 0, 400
	}
	rows := strings.Split(head, "\r\n")
	first := lineForm.FindStringSubmatch(rows[0])
	switch {
	case first == nil:
		return none, 0, 400
	case first[3] != "HTTP/1.1":
		return none, 0, 505
	case !knownMethod.MatchString(first[1]):
		return none, 0, 501
	case len(first[2]) > 1024:
		return none, 0, 414
	}
	r := api.Request{Method: first[1], Path: first[2]}
	values := map[string][]string{}
	for i, row := range rows[1:] {
		if i >= 32 {
			return none, 0, 431
		}
		m := headerForm.FindStringSubmatch(row)
		if m == nil {
			return none, 0, 400
		}
		name := strings.ToLower(m[1])
		r.Headers = append(r.Headers, api.Header{Name: name, Value: m[2]})
		values[name] = append(values[name], m[2])
	}
	encoding, length, host := values["transfer-encoding"], values["content-length"], values["host"]
	for _, x := range encoding {
		if len(encoding) > 1 || strings.ToLower(x) != "chunked" {
			return none, 0, 501
		}
	}
	if len(host) != 1 || host[0] == "" || len(encoding) > 0 && len(length) > 0 || len(length) > 1 || len(length) == 1 && !lengthForm.MatchString(length[0]) {
		return none, 0, 400
	}
	size, status := 0, 0
	if len(encoding) > 0 {
		r.Body, size, status = expectedChunks(behind)
	} else if len(length) == 1 {
		size, _ = strconv.Atoi(length[0])
		switch {
		case size > 32768:
			status = 413
		case size > len(behind):
			status = 1
		default:
			r.Body = []byte(behind[:size])
		}
	}
	if status != 0 {
		return none, 0, status
	}
	return r, len(head) + 4 + size, 0
}

// expectedChunks is the body of chunks, and how many bytes they are.
func expectedChunks(s string) (body []byte, size, status int) {
	all := len(s)
	for {
		line := chunkForm.FindStringSubmatch(s)
		if line == nil {
			if chunkBegin.MatchString(s) {
				return nil, 0, 1
			}
			return nil, 0, 400
		}
		s = s[len(line[0]):]
		n, _ := strconv.ParseInt(line[1], 16, 64)
		if int64(len(body))+n > 32768 {
			return nil, 0, 413
		}
		if int64(len(s)) < n {
			return nil, 0, 1
		}
		body = append(body, s[:n]...)
		s = s[n:]
		if !strings.HasPrefix(s, "\r\n") {
			if strings.HasPrefix("\r\n", s) {
				return nil, 0, 1
			}
			return nil, 0, 400
		}
		s = s[2:]
		if n == 0 {
			return body, all - len(s), 0
		}
	}
}

// maker makes requests by chance, most of them good ones.
type maker struct{ *rand.Rand }

func newMaker(seed int64) maker { return maker{rand.New(rand.NewSource(seed))} }

// one picks a text: mostly one of the first two.
func (g maker) one(l ...string) string {
	if g.Intn(12) > 0 {
		return l[g.Intn(min(2, len(l)))]
	}
	return l[g.Intn(len(l))]
}

// letters is n bytes of these.
func (g maker) letters(n int, of string) string {
	b := make([]byte, n)
	for i := range b {
		b[i] = of[g.Intn(len(of))]
	}
	return string(b)
}

// anyCase changes some letters' case.
func (g maker) anyCase(s string) string {
	b := []byte(s)
	for i := range b {
		if g.Intn(4) == 0 {
			b[i] = bytes.ToUpper(b[i : i+1])[0]
		}
	}
	return string(b)
}

// bytes is what may be a request.
func (g maker) bytes() []byte {
	var b strings.Builder
	b.WriteString(g.one("GET", "POST", "PUT", "DELETE", "PATCH", "get", "", "ABCDEFGHIJKLMNOPQ", "G T"))
	b.WriteString(g.one(" ", " ", "  ", "\t", ""))
	b.WriteString(g.one("/", "/a/b?c", "*", "/"+strings.Repeat("a", 1023), "/"+strings.Repeat("a", 1024), "/\x80", ""))
	b.WriteString(g.one(" ", " ", "  ", ""))
	b.WriteString(g.one("HTTP/1.1", "HTTP/1.1", "HTTP/1.0", "HTTP/2.0", "HTTP/1.", "http/1.1"))
	b.WriteString(g.one("\r\n", "\r\n", "\n", "\r", "\r\r\n"))
	for _, h := range g.headers() {
		b.WriteString(h)
		b.WriteString(g.one("\r\n", "\r\n", "\r\n", "\r\n", "\n", "\r\n "))
	}
	b.WriteString(g.one("\r\n", "\r\n", "\r", ""))
	out := []byte(b.String())
	if strings.Contains(strings.ToLower(b.String()), "transfer-encoding") {
		out = append(out, g.chunks()...)
	} else {
		out = append(out, g.letters(g.Intn(4), "ab\r\n\x00")...)
	}
	return g.spoiled(out)
}

func (g maker) headers() []string {
	var l []string
	if g.Intn(30) > 0 {
		l = append(l, g.anyCase("host")+g.one(": ", ":", ":\t ", " :", "")+g.one("a", "b.c", "", "\x7f"))
	}
	switch g.Intn(3) {
	case 0:
		l = append(l, g.anyCase("content-length")+": "+g.one("2", "0", "3", "00", "32768", "32769", "0000000002", "x", "-1", ""))
	case 1:
		l = append(l, g.anyCase("transfer-encoding")+": "+g.one("chunked", "CHUNKED", "gzip", "", "chunked,"))
	}
	for range g.Intn(3) {
		l = append(l, g.one("a: b", "x-y:  z w ", "bad", "transfer-encoding: chunked", "content-length: 2", "host: z", strings.Repeat("n", 64)+":", strings.Repeat("n", 65)+":", "a: \xff", "a: b\tc"))
	}
	if g.Intn(40) == 0 {
		l = append(l, slices.Repeat([]string{"f: g"}, 28+g.Intn(6))...)
	}
	g.Shuffle(len(l), func(i, k int) { l[i], l[k] = l[k], l[i] })
	return l
}

// chunks is what may be a body in chunks.
func (g maker) chunks() string {
	var b strings.Builder
	for range g.Intn(4) {
		n := 1 + g.Intn(20)
		if g.Intn(30) == 0 {
			n = 32760 + g.Intn(10)
		}
		form := g.one("%x", "%X", "%08x", "%09x", "%d")
		fmt.Fprintf(&b, form, n)
		b.WriteString(g.one("\r\n", "\r\n", "\n", ";a\r\n", "\r"))
		b.WriteString(g.letters(n, "ab\r\n0"))
		b.WriteString(g.one("\r\n", "\r\n", "\r", ""))
	}
	return b.String() + g.one("0", "000", "000000000", "8001", "") + g.one("\r\n", "\r\n", "\r") + g.one("\r\n", "\r\n", "\r", "a: b\r\n\r\n")
}

// spoiled is bytes, of which now and then one is gone, another or twice, or the end is cut off.
func (g maker) spoiled(b []byte) []byte {
	if g.Intn(3) > 0 || len(b) == 0 {
		return b
	}
	at := g.Intn(len(b))
	switch g.Intn(4) {
	case 0:
		return slices.Delete(b, at, at+1)
	case 1:
		b[at] = g.letters(1, "\x00\t\n\r 0aG:/\x7f\x80\xff")[0]
		return b
	case 2:
		return slices.Insert(b, at, b[at])
	}
	return b[:at]
}

func TestP8_1Oracle(t *testing.T) {
	seen := map[int]int{}
	for seed := range int64(20000) {
		b := newMaker(seed).bytes()
		old := slices.Clone(b)
		r, n, status := httpd.Parse(b)
		want, wantN, wantStatus := expected(b)
		if status != wantStatus || n != wantN || !equal(r, want) {
			t.Fatalf("seed %d, %.300q: %d %d %v, not %d %d %v", seed, b, status, n, r, wantStatus, wantN, want)
		}
		if !bytes.Equal(b, old) {
			t.Fatalf("seed %d: the argument has changed", seed)
		}
		seen[status]++
	}
	for _, status := range []int{0, 1, 400, 413, 414, 431, 501, 505} {
		if seen[status] < 20 {
			t.Errorf("status %d was there %d times", status, seen[status])
		}
	}
}

func TestP8_9CutOff(t *testing.T) {
	whole := 0
	for seed := range int64(1500) {
		g := newMaker(seed)
		b := g.bytes()
		r, n, status := httpd.Parse(b)
		if status != 0 || n > 3000 {
			continue
		}
		whole++
		for i := range n {
			refuse(t, "cut off", b[:i], 1)
		}
		for _, behind := range []string{"", "\x00", "\r\n", "0", plain, strings.Repeat("z", 9000)} {
			again, m, status := httpd.Parse(append(slices.Clone(b[:n]), behind...))
			if status != 0 || m != n || !equal(again, r) {
				t.Fatalf("seed %d, with %.20q behind it: %d %d", seed, behind, status, m)
			}
		}
	}
	if whole < 150 {
		t.Error("too few requests:", whole)
	}
}

func TestP8_10Chunks(t *testing.T) {
	for seed := range int64(300) {
		g := newMaker(seed)
		body := g.letters(g.Intn(2000), "ab\r\n0\x00\xff")
		if seed == 0 {
			body = g.letters(api.MaxBody, "ab\r\n0\x00\xff")
		}
		sized, _, status := httpd.Parse([]byte("PUT / HTTP/1.1\r\nhost: a\r\ncontent-length: " + strconv.Itoa(len(body)) + "\r\n\r\n" + body))
		if status != 0 {
			t.Fatal(status)
		}
		var b strings.Builder
		b.WriteString("PUT / HTTP/1.1\r\nhost: a\r\ntransfer-encoding: chunked\r\n\r\n")
		for rest := body; rest != ""; {
			n := 1 + g.Intn(len(rest))
			fmt.Fprintf(&b, []string{"%x", "%X", "%04x", "%08X"}[g.Intn(4)]+"\r\n", n)
			b.WriteString(rest[:n] + "\r\n")
			rest = rest[n:]
		}
		b.WriteString(strings.Repeat("0", 1+g.Intn(8)) + "\r\n\r\n")
		if r := take(t, "chunks", []byte(b.String())); !bytes.Equal(r.Body, sized.Body) || string(r.Body) != body {
			t.Fatalf("seed %d: another body", seed)
		}
	}
}

func TestP8_11Case(t *testing.T) {
	for seed := range int64(20000) {
		g := newMaker(seed)
		b := g.bytes()
		head, behind, _ := bytes.Cut(b, []byte("\r\n\r\n"))
		rows := bytes.Split(head, []byte("\r\n"))
		for i, row := range rows[1:] {
			name, value, ok := bytes.Cut(row, []byte(":"))
			if ok && !bytes.ContainsAny(name, "\r\n") {
				changed := bytes.ToLower(name)
				if g.Intn(2) == 0 {
					changed = bytes.ToUpper(name)
				}
				if len(changed) == len(name) { // other bytes than letters may be no characters
					rows[i+1] = append(append(changed, ':'), value...)
				}
			}
		}
		other := bytes.Join(rows, []byte("\r\n"))
		if len(head) < len(b) {
			other = append(append(other, "\r\n\r\n"...), behind...)
		}
		if len(other) != len(b) {
			continue
		}
		r, n, status := httpd.Parse(b)
		again, m, otherStatus := httpd.Parse(other)
		if status != otherStatus || n != m || !equal(r, again) {
			t.Fatalf("seed %d: %q is %d, %q is %d", seed, b, status, other, otherStatus)
		}
	}
}

// Whatever bytes: a status is one of eight, and beside it stands nothing.
func TestP8_12OneOf(t *testing.T) {
	may := []int{0, 1, 400, 413, 414, 431, 501, 505}
	for seed := range int64(20000) {
		g := newMaker(seed)
		b := g.bytes()
		switch g.Intn(3) {
		case 0:
			b = []byte(g.letters(g.Intn(200), "GET /HTP1.\r\n\r\n:a\x00\xff"))
		case 1:
			for range g.Intn(20) {
				b = g.spoiled(b)
			}
		}
		r, n, status := httpd.Parse(b)
		if !slices.Contains(may, status) || (status == 0) != (n > 0) || status != 0 && !isZero(r) || n > len(b) {
			t.Fatalf("%q: %d %d %v", b, status, n, r)
		}
	}
}

func FuzzP8_1(f *testing.F) {
	for seed := range int64(50) {
		f.Add(newMaker(seed).bytes())
	}
	f.Fuzz(func(t *testing.T, b []byte) {
		r, n, status := httpd.Parse(b)
		want, wantN, wantStatus := expected(b)
		if status != wantStatus || n != wantN || !equal(r, want) {
			t.Fatalf("%q: %d %d %v, not %d %d %v", b, status, n, r, wantStatus, wantN, want)
		}
	})
}
