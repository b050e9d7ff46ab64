package digest_test

import (
	"bytes"
	"crypto/hmac"
	"crypto/sha1"
	"crypto/sha256"
	"encoding/base64"
	"encoding/hex"
	"math/rand"
	"slices"
	"strings"
	"testing"
	"time"

	"blotter/api"
	"blotter/digest"
)

// some is bytes by chance, the same ones in each run.
func some(seed int64, n int) []byte {
	b := make([]byte, n)
	rand.New(rand.NewSource(seed)).Read(b)
	return b
}

// unhex is the bytes that a document writes as digits and blanks.
func unhex(t *testing.T, s string) string {
	t.Helper()
	b, err := hex.DecodeString(strings.ReplaceAll(s, " ", ""))
	if err != nil {
		t.Fatal(err)
	}
	return string(b)
}

func TestP7_1Said(t *testing.T) {
	two := "abcdbcdecdefdefgefghfghighijhijkijkljklmklmnlmnomnopnopq"
	for _, x := range []struct{ text, short, long string }{
		{"", "da39a3ee 5e6b4b0d 3255bfef 95601890 afd80709", "e3b0c442 98fc1c14 9afbf4c8 996fb924 27ae41e4 649b934c a495991b 7852b855"},
		{"abc", "a9993e36 4706816a ba3e2571 7850c26c 9cd0d89d", "ba7816bf 8f01cfea 414140de 5dae2223 b00361a3 96177a9c b410ff61 f20015ad"},
		{two, "84983e44 1c3bd26e baae4aa1 f95129e5 e54670f1", "248d6a61 d20638b8 e5c02693 0c3e6039 a33ce459 64ff2167 f6ecedd4 19db06c1"},
		{strings.Repeat("a", 1000000), "34aa973c d4c4daa4 f61eeb2b dbad2731 6534016f", "cdc76e5c 9914fb92 81a1c7e2 84d73e67 f1809a48 a497200e 046d39cc c7112cd0"},
	} {
		short, long := digest.Sha1([]byte(x.text)), digest.Sha256([]byte(x.text))
		if string(short[:]) != unhex(t, x.short) || string(long[:]) != unhex(t, x.long) {
			t.Errorf("%d bytes %.10q: %x %x", len(x.text), x.text, short, long)
		}
	}
	if digest.Sha1(nil) != digest.Sha1([]byte{}) || digest.Sha256(nil) != digest.Sha256([]byte{}) {
		t.Error("nil is not empty")
	}
}

// Every number of bytes around those at which a block, or the room for the count, is full.
func TestP7_1EachLength(t *testing.T) {
	for n := range 400 {
		b := some(int64(n), n)
		if got, want := digest.Sha1(b), api.Short(sha1.Sum(b)); got != want {
			t.Errorf("sha1 of %d bytes: %x, not %x", n, got, want)
		}
		if got, want := digest.Sha256(b), api.Hash(sha256.Sum256(b)); got != want {
			t.Errorf("sha256 of %d bytes: %x, not %x", n, got, want)
		}
	}
}

// So many that the bits' number has four bytes.
func TestP7_1Long(t *testing.T) {
	b := some(1, 3<<20+5)
	if digest.Sha1(b) != sha1.Sum(b) || digest.Sha256(b) != sha256.Sum256(b) {
		t.Error("of three million bytes")
	}
}

func TestP7_2Said(t *testing.T) { // RFC 4231's test cases, but the one that is cut off
	for i, x := range []struct{ key, b, want string }{
		{strings.Repeat("\x0b", 20), "Hi There", "b0344c61d8db38535ca8afceaf0bf12b881dc200c9833da726e9376c2e32cff7"},
		{"Jefe", "what do ya want for nothing?", "5bdcc146bf60754e6a042426089575c75a003f089d2739839dec58b964ec3843"},
		{strings.Repeat("\xaa", 20), strings.Repeat("\xdd", 50), "773ea91e36800e46854db8ebd09181a72959098b3ef8c122d9635514ced565fe"},
		{strings.Repeat("\xaa", 131), "Test Using Larger Than Block-Size Key - Hash Key First", "60e431591ee0b67f0d8a26aacbf5b77f8e0bc6213728c5140546040f0ee37f54"},
		{"", "", "b613679a0814d9ec772f95d778c35fc5ff1697c493715653c6c712144292c5ad"},
	} {
		if m := digest.Mac([]byte(x.key), []byte(x.b)); string(m[:]) != unhex(t, x.want) {
			t.Errorf("%d: %x", i, m)
		}
	}
}

func TestP7_2EachLength(t *testing.T) {
	for key := range 200 {
		for _, n := range []int{0, 1, 55, 56, 63, 64, 65, 119, 120, 200} {
			k, b := some(int64(key), key), some(int64(1000+n), n)
			h := hmac.New(sha256.New, k)
			h.Write(b)
			if m := digest.Mac(k, b); !bytes.Equal(m[:], h.Sum(nil)) {
				t.Errorf("a key of %d bytes, %d bytes: %x", key, n, m)
			}
		}
	}
}

func TestP7_3Base64(t *testing.T) {
	for b, want := range map[string]string{
		"": "", "\x00": "AA==", "\xff\xff": "//8=", "f": "Zg==", "fo": "Zm8=", "foo": "Zm9v", "foob": "Zm9vYg==", "fooba": "Zm9vYmE=", "foobar": "Zm9vYmFy",
		"\xff": "/w==", "\xfb\xef\xbe": "++++", "\x00\x00": "AAA=", "\x00\x00\x00": "AAAA",
	} {
		if got := digest.Base64([]byte(b)); got != want {
			t.Errorf("%q: %s", b, got)
		}
	}
	if digest.Base64(nil) != "" {
		t.Error("nil")
	}
	for n := range 300 {
		b := some(int64(n), n)
		if got, want := digest.Base64(b), base64.StdEncoding.EncodeToString(b); got != want {
			t.Errorf("%d bytes: %s, not %s", n, got, want)
		}
	}
}

// Each of the 64 letters stands for its number, in each of the four places.
func TestP7_3Letters(t *testing.T) {
	want := "ABCDEFGHIJKLMNOPQRSTUVWXYZabcdefghijklmnopqrstuvwxyz0123456789+/"
	for i := range 64 {
		for place := range 4 {
			bits := i << (18 - 6*place)
			got := digest.Base64([]byte{byte(bits >> 16), byte(bits >> 8), byte(bits)})
			four := []byte("AAAA")
			four[place] = want[i]
			if got != string(four) {
				t.Errorf("%d in place %d: %s", i, place, got)
			}
		}
	}
}

func TestP7_4Same(t *testing.T) {
	for _, x := range []struct {
		a, b string
		want bool
	}{
		{"", "", true}, {"a", "a", true}, {"a", "b", false}, {"a", "", false}, {"", "a", false}, {"ab", "a", false}, {"a", "ab", false},
		{"\x00", "", false}, {"\x00", "\x00\x00", false}, {"ab", "ba", false}, {"ab", "AB", false}, {"\x01\x01", "\x00\x00", false}, {"\x80", "\x00", false},
	} {
		if digest.Same([]byte(x.a), []byte(x.b)) != x.want {
			t.Errorf("%q, %q: not %v", x.a, x.b, x.want)
		}
	}
	if !digest.Same(nil, []byte{}) || !digest.Same(nil, nil) {
		t.Error("nil is not empty")
	}
	a := some(5, 100)
	for i := range a {
		for bit := range 8 {
			b := slices.Clone(a)
			b[i] ^= 1 << bit
			if digest.Same(a, b) || !digest.Same(b, slices.Clone(b)) {
				t.Errorf("bit %d of byte %d", bit, i)
			}
		}
	}
}

// A first byte that is another one is told no sooner than a last one.
func TestP7_4HowLong(t *testing.T) {
	a := make([]byte, 1<<20)
	first, last := slices.Clone(a), slices.Clone(a)
	first[0], last[len(last)-1] = 1, 1
	least := func(b []byte) time.Duration {
		best := time.Hour
		for range 10 {
			begin := time.Now()
			if digest.Same(a, b) {
				t.Fatal("they are the same")
			}
			best = min(best, time.Since(begin))
		}
		return best
	}
	// Whatever else the machine does may spoil one comparison, but not all of them.
	for range 10 {
		if least(first) > least(last)/4 {
			return
		}
	}
	t.Error("bytes whose first one differs are told apart much sooner")
}

func TestP7_5Keys(t *testing.T) {
	b := []byte("what it is about")
	for n := range 64 {
		key := some(int64(n), n)
		want := digest.Mac(key, b)
		for more := n; more <= 64; more++ {
			filled := append(slices.Clone(key), make([]byte, more-n)...)
			if digest.Mac(filled, b) != want {
				t.Errorf("a key of %d bytes, filled up to %d", n, more)
			}
		}
		if digest.Mac(append(slices.Clone(key), make([]byte, 65-n)...), b) == want {
			t.Errorf("a key of %d bytes, filled up to 65", n)
		}
	}
	for _, n := range []int{65, 66, 127, 128, 129, 1000} {
		key := some(int64(n), n)
		d := digest.Sha256(key)
		if digest.Mac(key, b) != digest.Mac(d[:], b) {
			t.Errorf("a key of %d bytes is not as its digest", n)
		}
	}
	key := some(64, 64)
	if d := digest.Sha256(key); digest.Mac(key, b) == digest.Mac(d[:], b) {
		t.Error("a key of 64 bytes is as its digest")
	}
}

// What is handed in stays as it was, the room behind it too.
func TestP7_2Memory(t *testing.T) {
	for _, n := range []int{0, 1, 20, 55, 63, 64, 65, 100} {
		room, other := some(int64(n), n+200), some(int64(n)+1, n+200)
		key, b := room[:n], other[:n]
		oldKey, oldB := slices.Clone(room), slices.Clone(other)
		digest.Sha1(b)
		digest.Sha256(b)
		digest.Mac(key, b)
		digest.Base64(b)
		digest.Same(key, b)
		if !bytes.Equal(room, oldKey) || !bytes.Equal(other, oldB) {
			t.Errorf("%d bytes: changed", n)
		}
	}
}
