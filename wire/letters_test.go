package wire_test

import (
	"bytes"
	"encoding/base64"
	"math/rand"
	"strings"
	"testing"

	"blotter/wire"
)

const alphabet = "ABCDEFGHIJKLMNOPQRSTUVWXYZabcdefghijklmnopqrstuvwxyz0123456789-_"

func TestP1_4Spell(t *testing.T) {
	for _, x := range []struct{ b, want string }{
		{"", ""},
		{"\x00", "AA"},
		{"\xff", "_w"},
		{"\xff\xff", "__8"},
		{"\xff\xff\xff", "____"},
		{"\x00\x10\x83", "ABCD"},
		{"\xfb\xef\xbe", "----"},
		{"\x01\x02\x03\x04", "AQIDBA"},
	} {
		if got := wire.Spell([]byte(x.b)); got != x.want {
			t.Errorf("Spell(% x) = %q, want %q", x.b, got, x.want)
		}
		if got, ok := wire.Unspell(x.want); !ok || string(got) != x.b {
			t.Errorf("Unspell(%q) = % x, %v, want % x", x.want, got, ok, x.b)
		}
	}
	if wire.Spell(nil) != "" {
		t.Error("Spell(nil)")
	}
}

func TestP1_4UnspellRefuses(t *testing.T) {
	for _, s := range []string{"A", "_", "AB", "__9", "__-", "AAAAA", "AAAAAB", "____A", "AA=", "AA==", "AA\n", " AA", "A+AA", "A/AA", "A.AA", "AA\x00A", "AA\xc3\xa9", "AA[A", "AA`A", "AA{A", "AA@A", "AA:A", "AA,A"} {
		if got, ok := wire.Unspell(s); ok || len(got) != 0 {
			t.Errorf("Unspell(%q) = % x, %v", s, got, ok)
		}
	}
	for c := range 256 {
		s := "AA" + string([]byte{byte(c)}) + "A"
		if _, ok := wire.Unspell(s); ok != strings.Contains(alphabet, s[2:3]) {
			t.Errorf("Unspell(%q): %v", s, ok)
		}
	}
}

func TestP1_4Memory(t *testing.T) {
	b := roomy([]byte{1, 2})
	wire.Spell(b)
	if !untouched(b, []byte{1, 2}) {
		t.Error("Spell changes what it is given")
	}
	one, _ := wire.Unspell("AQID")
	two, _ := wire.Unspell("AQID")
	clear(one[:cap(one)])
	if !bytes.Equal(two, []byte{1, 2, 3}) {
		t.Error("answers share memory")
	}
}

func TestP1_10Letters(t *testing.T) {
	r := rand.New(rand.NewSource(10))
	for size := range 200 {
		b := randomBytes(r, size)
		s := wire.Spell(b)
		if want := base64.RawURLEncoding.EncodeToString(b); s != want {
			t.Fatalf("Spell(% x) = %q, want %q", b, s, want)
		}
		if got, ok := wire.Unspell(s); !ok || !bytes.Equal(got, b) {
			t.Fatalf("Unspell(%q) = % x, %v", s, got, ok)
		}
	}
	spelt := 0
	for range 50000 {
		s := randomBytes(r, r.Intn(9))
		for i := range s {
			s[i] = alphabet[s[i]%64]
		}
		got, ok := wire.Unspell(string(s))
		want, err := base64.RawURLEncoding.Strict().DecodeString(string(s))
		if ok != (err == nil) || ok && !bytes.Equal(got, want) || !ok && len(got) != 0 {
			t.Fatalf("Unspell(%q) = % x, %v", s, got, ok)
		}
		if ok {
			spelt++
			if again := wire.Spell(got); again != string(s) {
				t.Fatalf("%q was read, %q spelt", s, again)
			}
		}
	}
	if spelt < 1000 {
		t.Errorf("only %d texts were read", spelt)
	}
}

// utf8Form is a number's bytes as the document says it, whether it is a character's or not.
func utf8Form(n int) []byte {
	switch {
	case n < 1<<7:
		return []byte{byte(n)}
	case n < 1<<11:
		return []byte{byte(0xc0 | n>>6), byte(0x80 | n&63)}
	case n < 1<<16:
		return []byte{byte(0xe0 | n>>12), byte(0x80 | n>>6&63), byte(0x80 | n&63)}
	}
	return []byte{byte(0xf0 | n>>18), byte(0x80 | n>>12&63), byte(0x80 | n>>6&63), byte(0x80 | n&63)}
}

func TestP1_5AllCharacters(t *testing.T) {
	for n := range 0x120000 {
		b := utf8Form(n)
		want := -1
		if n >= 0xd800 && n <= 0xdfff || n > 0x10ffff {
			want = 0
		}
		if got := wire.Chars(b); got != want {
			t.Fatalf("Chars of %x: %d, want %d", n, got, want)
		}
		if len(b) > 1 && wire.Chars(b[:len(b)-1]) != 0 {
			t.Fatalf("Chars of a torn %x", n)
		}
	}
}

// lead is the size of a character that begins with the byte, and the first one of this size; 0: none does.
func lead(c byte) (size, least int) {
	switch {
	case c < 0x80:
		return 1, 0
	case c>>5 == 6:
		return 2, 1 << 7
	case c>>4 == 14:
		return 3, 1 << 11
	case c>>3 == 30:
		return 4, 1 << 16
	}
	return 0, 0
}

// slowChars is Chars, worked out bit by bit.
func slowChars(b []byte) int {
	for at := 0; at < len(b); {
		size, least := lead(b[at])
		if size == 0 || at+size > len(b) {
			return at
		}
		n := int(b[at])
		if size > 1 {
			n &= 0x7f >> size
		}
		for _, c := range b[at+1 : at+size] {
			if c>>6 != 2 {
				return at
			}
			n = n<<6 | int(c&63)
		}
		if n < least || n >= 0xd800 && n <= 0xdfff || n > 0x10ffff {
			return at
		}
		at += size
	}
	return -1
}

func TestP1_5AnyBytes(t *testing.T) {
	edges := []byte{0, 0x7f, 0x80, 0x8f, 0x90, 0x9f, 0xa0, 0xbf, 0xc0, 0xff}
	b := make([]byte, 4)
	for first := range 256 {
		for second := range 256 {
			for _, third := range edges {
				for _, fourth := range edges {
					b[0], b[1], b[2], b[3] = byte(first), byte(second), third, fourth
					if got, want := wire.Chars(b), slowChars(b); got != want {
						t.Fatalf("Chars(% x) = %d, want %d", b, got, want)
					}
				}
			}
		}
	}
	for n := 1; n < 4; n++ {
		for first := range 256 {
			short := []byte{byte(first), 0xbf, 0x80}[:n]
			if got, want := wire.Chars(short), slowChars(short); got != want {
				t.Fatalf("Chars(% x) = %d, want %d", short, got, want)
			}
		}
	}
}

func TestP1_5Examples(t *testing.T) {
	for _, x := range []struct {
		b    string
		want int
	}{
		{"", -1},
		{"a", -1},
		{"\x00", -1},
		{"\x7f", -1},
		{"\ufffd", -1},
		{"a\xc2\x80\xe0\xa0\x80\xf0\x90\x80\x80", -1},
		{"\xf4\x8f\xbf\xbf", -1},
		{"\xf4\x90\x80\x80", 0},
		{"\xc0\x80", 0},
		{"\xc1\xbf", 0},
		{"\xe0\x9f\xbf", 0},
		{"\xf0\x8f\xbf\xbf", 0},
		{"a\xed\xa0\x80", 1},
		{"a\xed\xbf\xbf", 1},
		{"\xed\x9f\xbf\xee\x80\x80", -1},
		{"ab\x80", 2},
		{"ab\xff", 2},
		{"\u00e9\xe2\x82", 2},
		{"\u00e9\xe2\x82a", 2},
		{"\u00e9\u20ac\xff\xff", 5},
	} {
		if got := wire.Chars([]byte(x.b)); got != x.want {
			t.Errorf("Chars(% x) = %d, want %d", x.b, got, x.want)
		}
	}
	if wire.Chars(nil) != -1 {
		t.Error("Chars(nil)")
	}
}

func TestP1_11Joined(t *testing.T) {
	r := rand.New(rand.NewSource(11))
	for range 5000 {
		var first []byte
		for range r.Intn(6) {
			n := r.Intn(0x10f800)
			if n >= 0xd800 {
				n += 0x800
			}
			first = append(first, utf8Form(n)...)
		}
		second := randomBytes(r, r.Intn(6))
		if r.Intn(2) == 0 {
			second = []byte("r\u00e9sum\u00e9")[:r.Intn(9)]
		}
		want := wire.Chars(second)
		if want >= 0 {
			want += len(first)
		}
		if wire.Chars(first) != -1 {
			t.Fatalf("% x has a wrong byte", first)
		}
		if got := wire.Chars(append(bytes.Clone(first), second...)); got != want {
			t.Fatalf("Chars(% x, % x) = %d, want %d", first, second, got, want)
		}
	}
}
