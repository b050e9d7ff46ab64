package wire_test

import (
	"bytes"
	"math"
	"math/rand"
	"strings"
	"testing"

	"blotter/api"
	"blotter/wire"
)

func TestP1_3Byte(t *testing.T) {
	c := wire.From([]byte{0, 255})
	for i, want := range []int{0, 255} {
		if got, e := c.Byte(); got != want || e != api.OK || c.At() != i+1 {
			t.Errorf("byte %d: %d, error %d, at %d", i, got, e, c.At())
		}
	}
	for range 2 {
		if got, e := c.Byte(); got != 0 || e != api.ErrShort || c.At() != 2 {
			t.Errorf("behind the end: %d, error %d, at %d", got, e, c.At())
		}
	}
}

func TestP1_3Number(t *testing.T) {
	for _, x := range forms {
		c := wire.From(append(bytes.Clone(x.form), 0xff))
		if got, e := c.Number(); got != x.n || e != api.OK || c.At() != len(x.form) {
			t.Errorf("% x: %d, error %d, at %d", x.form, got, e, c.At())
		}
		for n := range len(x.form) {
			wantNumberError(t, x.form[:n], api.ErrShort)
		}
	}
}

func TestP1_3NumberErrors(t *testing.T) {
	for _, x := range []struct {
		b    []byte
		want api.Errno
	}{
		{nil, api.ErrShort},
		{[]byte{}, api.ErrShort},
		{[]byte{0xf8}, api.ErrShort},
		{[]byte{0xf9, 0}, api.ErrShort}, // ahead of ErrForm
		{[]byte{0xff, 0xff, 0xff, 0xff, 0xff, 0xff, 0xff, 0xff}, api.ErrShort}, // ahead of ErrRange
		{[]byte{0xf8, 0}, api.ErrForm},
		{[]byte{0xf8, 1}, api.ErrForm},
		{[]byte{0xf8, 247}, api.ErrForm},
		{[]byte{0xf9, 0, 0xff}, api.ErrForm},
		{[]byte{0xfa, 0, 0xff, 0xff}, api.ErrForm},
		{[]byte{0xfb, 0, 0xff, 0xff, 0xff}, api.ErrForm},
		{[]byte{0xfc, 0, 0xff, 0xff, 0xff, 0xff}, api.ErrForm},
		{[]byte{0xfd, 0, 0xff, 0xff, 0xff, 0xff, 0xff}, api.ErrForm},
		{[]byte{0xfe, 0, 0xff, 0xff, 0xff, 0xff, 0xff, 0xff}, api.ErrForm},
		{[]byte{0xff, 0, 0xff, 0xff, 0xff, 0xff, 0xff, 0xff, 0xff}, api.ErrForm},
		{[]byte{0xff, 0, 0, 0, 0, 0, 0, 0, 0}, api.ErrForm},
		{[]byte{0xff, 0x80, 0, 0, 0, 0, 0, 0, 0}, api.ErrRange},
		{bytes.Repeat([]byte{0xff}, 9), api.ErrRange},
	} {
		wantNumberError(t, x.b, x.want)
	}
}

// wantNumberError asks that Number and Text refuse the bytes, and read nothing, at the beginning and farther on.
func wantNumberError(t *testing.T, b []byte, want api.Errno) {
	t.Helper()
	for _, ahead := range [][]byte{nil, {1}} {
		c := wire.From(append(bytes.Clone(ahead), b...))
		for range ahead {
			c.Byte()
		}
		if got, e := c.Number(); got != 0 || e != want || c.At() != len(ahead) {
			t.Errorf("Number of % x: %d, error %d, at %d, want error %d", b, got, e, c.At(), want)
		}
		if got, e := c.Text(math.MaxInt); got != "" || e != want || c.At() != len(ahead) {
			t.Errorf("Text of % x: %q, error %d, at %d, want error %d", b, got, e, c.At(), want)
		}
		if got := c.Rest(); !bytes.Equal(got, b) {
			t.Errorf("behind an error % x is left of % x", got, b)
		}
	}
}

func TestP1_3Text(t *testing.T) {
	huge := wire.Number(nil, math.MaxInt64)
	for _, x := range []struct {
		name string
		b    []byte
		most int
		want string
		e    api.Errno
	}{
		{"just as many as may be", []byte{2, 'a', 'b', 'c'}, 2, "ab", api.OK},
		{"fewer than may be", []byte{2, 'a', 'b'}, math.MaxInt, "ab", api.OK},
		{"one too many", []byte{2, 'a', 'b'}, 1, "", api.ErrLong},
		{"none may be", []byte{1, 'a'}, 0, "", api.ErrLong},
		{"below none may be", []byte{1, 'a'}, -1, "", api.ErrLong},
		{"empty, none may be", []byte{0}, 0, "", api.OK},
		{"empty, below none may be", []byte{0, 'a'}, -5, "", api.OK},
		{"empty, the least may be", []byte{0}, math.MinInt, "", api.OK},
		{"long ahead of short", []byte{9, 'a'}, 8, "", api.ErrLong},
		{"one too few", []byte{3, 'a', 'b'}, 3, "", api.ErrShort},
		{"nothing behind", []byte{1}, 1, "", api.ErrShort},
		{"a huge one that may be", huge, math.MaxInt, "", api.ErrShort},
		{"a huge one with bytes", append(huge, "abc"...), math.MaxInt, "", api.ErrShort},
		{"a huge one that may not be", huge, math.MaxInt - 1, "", api.ErrLong},
		{"another form of its number", []byte{0xf8, 1, 'a'}, 0, "", api.ErrForm},
		{"no UTF-8", []byte{2, 0xff, 0}, 2, "\xff\x00", api.OK},
	} {
		c := wire.From(x.b)
		got, e := c.Text(x.most)
		at := 0
		if x.e == api.OK {
			at = 1 + len(x.want)
		}
		if got != x.want || e != x.e || c.At() != at {
			t.Errorf("%s: %q, error %d, at %d, want %q, error %d, at %d", x.name, got, e, c.At(), x.want, x.e, at)
		}
	}
}

func TestP1_3RestAndEnd(t *testing.T) {
	c := wire.From([]byte{1, 2, 3})
	if c.End() != api.ErrMore || c.At() != 0 {
		t.Error("End at the beginning")
	}
	c.Byte()
	if got := c.Rest(); !bytes.Equal(got, []byte{2, 3}) || c.At() != 3 || c.End() != api.OK {
		t.Errorf("Rest % x, at %d, End %d", got, c.At(), c.End())
	}
	if got := c.Rest(); len(got) != 0 || c.At() != 3 || c.End() != api.OK {
		t.Errorf("Rest again % x", got)
	}
	for _, b := range [][]byte{nil, {}} {
		c := wire.From(b)
		if c == nil || c.At() != 0 || c.End() != api.OK || len(c.Rest()) != 0 {
			t.Error("a cursor over nothing")
		}
	}
}

func TestP1_3Memory(t *testing.T) {
	b := roomy([]byte{1, 2, 3})
	c, other := wire.From(b), wire.From(b)
	b[0], b[1] = 9, 9
	if got, _ := c.Byte(); got != 1 {
		t.Error("the cursor goes over what it was given, not over a copy")
	}
	twin := *c
	rest := c.Rest()
	clear(rest[:cap(rest)])
	if !bytes.Equal(twin.Rest(), []byte{2, 3}) {
		t.Error("Rest hands out the cursor's own bytes")
	}
	if c.At() != 3 || other.At() != 0 || !bytes.Equal(other.Rest(), []byte{1, 2, 3}) {
		t.Error("cursors share memory")
	}
	if !untouched(b, []byte{9, 9, 3}) {
		t.Error("the cursor changes what it was given")
	}
}

func TestP1_3Unmade(t *testing.T) {
	for _, c := range []*wire.Cursor{nil, {}, new(wire.Cursor)} {
		if n, e := c.Byte(); n != 0 || e != api.ErrNil {
			t.Error("Byte", n, e)
		}
		if n, e := c.Number(); n != 0 || e != api.ErrNil {
			t.Error("Number", n, e)
		}
		if s, e := c.Text(-1); s != "" || e != api.ErrNil {
			t.Error("Text", s, e)
		}
		if c.At() != 0 || len(c.Rest()) != 0 || c.End() != api.ErrNil {
			t.Error("At, Rest, End")
		}
	}
}

func TestP1_6ThereAndBack(t *testing.T) {
	r := rand.New(rand.NewSource(6))
	for range 300 {
		b := randomBytes(r, r.Intn(5))
		ahead := len(b)
		numbers, texts := make([]int, 10), make([]string, 10)
		for i := range numbers {
			numbers[i] = randomNumber(r)
			texts[i] = string(randomBytes(r, r.Intn(300)))
			b = wire.Text(wire.Number(b, numbers[i]), texts[i])
		}
		c := wire.From(b)
		for range ahead {
			c.Byte()
		}
		for i := range numbers {
			n, e := c.Number()
			s, e2 := c.Text(len(texts[i]))
			if n != numbers[i] || s != texts[i] || e != api.OK || e2 != api.OK {
				t.Fatalf("number %d: %d, %q, errors %d, %d", i, n, s, e, e2)
			}
		}
		if c.End() != api.OK || c.At() != len(b) {
			t.Fatal("something is left")
		}
	}
}

func TestP1_7OneForm(t *testing.T) {
	r := rand.New(rand.NewSource(7))
	read := 0
	for range 100000 {
		b := randomBytes(r, 1+r.Intn(12))
		if r.Intn(2) == 0 {
			b[0] = byte(240 + r.Intn(16))
		}
		if len(b) > 2 && r.Intn(2) == 0 {
			b[1] = 0
		}
		c := wire.From(b)
		if n, e := c.Number(); e == api.OK {
			read++
			if again := wire.Number(nil, n); !bytes.Equal(again, b[:c.At()]) {
				t.Fatalf("% x was read, % x put", b[:c.At()], again)
			}
		}
		c = wire.From(b)
		if s, e := c.Text(12); e == api.OK && !bytes.Equal(wire.Text(nil, s), b[:c.At()]) {
			t.Fatalf("% x was read as %q", b[:c.At()], s)
		}
		if p, n, e := wire.Unframe(b); e == api.OK && !bytes.Equal(frame(t, p), b[:n]) {
			t.Fatalf("% x was read as a frame of % x", b[:n], p)
		}
	}
	if read < 1000 {
		t.Errorf("only %d numbers were read", read)
	}
	if s := strings.Repeat("z", 300); !bytes.Equal(wire.Text(nil, s)[:3], []byte{0xf9, 1, 44}) {
		t.Error("a long text's number")
	}
}
