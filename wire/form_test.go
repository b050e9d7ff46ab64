package wire_test

import (
	"bytes"
	"hash/crc32"
	"math"
	"math/rand"
	"strings"
	"testing"

	"blotter/api"
	"blotter/wire"
)

// forms has the numbers at which a form grows by a byte, and those beside them.
var forms = []struct {
	n    int
	form []byte
}{
	{0, []byte{0}},
	{1, []byte{1}},
	{246, []byte{246}},
	{247, []byte{0xf7}},
	{248, []byte{0xf8, 0xf8}},
	{255, []byte{0xf8, 0xff}},
	{256, []byte{0xf9, 1, 0}},
	{1<<16 - 1, []byte{0xf9, 0xff, 0xff}},
	{1 << 16, []byte{0xfa, 1, 0, 0}},
	{1<<24 - 1, []byte{0xfa, 0xff, 0xff, 0xff}},
	{1 << 24, []byte{0xfb, 1, 0, 0, 0}},
	{1<<32 - 1, []byte{0xfb, 0xff, 0xff, 0xff, 0xff}},
	{1 << 32, []byte{0xfc, 1, 0, 0, 0, 0}},
	{1<<40 - 1, []byte{0xfc, 0xff, 0xff, 0xff, 0xff, 0xff}},
	{1 << 40, []byte{0xfd, 1, 0, 0, 0, 0, 0}},
	{1<<48 - 1, []byte{0xfd, 0xff, 0xff, 0xff, 0xff, 0xff, 0xff}},
	{1 << 48, []byte{0xfe, 1, 0, 0, 0, 0, 0, 0}},
	{1<<56 - 1, []byte{0xfe, 0xff, 0xff, 0xff, 0xff, 0xff, 0xff, 0xff}},
	{1 << 56, []byte{0xff, 1, 0, 0, 0, 0, 0, 0, 0}},
	{math.MaxInt64 - 1, []byte{0xff, 0x7f, 0xff, 0xff, 0xff, 0xff, 0xff, 0xff, 0xfe}},
	{math.MaxInt64, []byte{0xff, 0x7f, 0xff, 0xff, 0xff, 0xff, 0xff, 0xff, 0xff}},
}

// roomy is a copy of bytes with room behind its end, which has a mark of its own.
func roomy(b []byte) []byte {
	all := append(bytes.Clone(b), bytes.Repeat([]byte{0xaa}, 32)...)
	return all[:len(b)]
}

// untouched tells whether roomy's bytes and the room behind them are as they were.
func untouched(b, was []byte) bool {
	room := b[len(b) : len(b)+32]
	return bytes.Equal(b, was) && bytes.Equal(room, bytes.Repeat([]byte{0xaa}, 32))
}

func TestP1_1Number(t *testing.T) {
	for _, x := range forms {
		if got := wire.Number(nil, x.n); !bytes.Equal(got, x.form) {
			t.Errorf("Number(nil, %d) = % x, want % x", x.n, got, x.form)
		}
		if got := wire.Number([]byte("ab"), x.n); !bytes.Equal(got, append([]byte("ab"), x.form...)) {
			t.Errorf("Number(ab, %d) = % x", x.n, got)
		}
	}
	for _, n := range []int{-1, -247, -248, math.MinInt} {
		if got := wire.Number([]byte{9}, n); !bytes.Equal(got, []byte{9, 0}) {
			t.Errorf("Number(9, %d) = % x, want 09 00", n, got)
		}
	}
	if !bytes.Equal(wire.Number(nil, 5), wire.Number([]byte{}, 5)) {
		t.Error("nil and an empty list differ")
	}
}

func TestP1_1Text(t *testing.T) {
	for _, size := range []int{0, 1, 2, 247, 248, 255, 256, 70000} {
		s := strings.Repeat("x\x00\xff", size)[:size]
		want := append(wire.Number([]byte("head"), size), s...)
		if got := wire.Text([]byte("head"), s); !bytes.Equal(got, want) {
			t.Errorf("a text of %d bytes has another form", size)
		}
	}
	if got := wire.Text(nil, "ab"); !bytes.Equal(got, []byte{2, 'a', 'b'}) {
		t.Errorf("% x", got)
	}
	if got := wire.Text(nil, ""); !bytes.Equal(got, []byte{0}) {
		t.Errorf("% x", got)
	}
}

func TestP1_1Sum(t *testing.T) {
	for _, x := range []struct {
		b    []byte
		want uint32
	}{
		{nil, 0},
		{[]byte{}, 0},
		{[]byte("123456789"), 0xe3069283},
		{make([]byte, 32), 0x8a9136aa},
		{bytes.Repeat([]byte{0xff}, 32), 0x62a8ab43},
	} {
		if got := wire.Sum(x.b); got != x.want {
			t.Errorf("Sum(% x) = %x, want %x", x.b, got, x.want)
		}
	}
	r := rand.New(rand.NewSource(1))
	for size := range 300 {
		b := randomBytes(r, size)
		if want := crc32.Checksum(b, crc32.MakeTable(crc32.Castagnoli)); wire.Sum(b) != want {
			t.Errorf("Sum(% x) = %x, want %x", b, wire.Sum(b), want)
		}
	}
}

// Arguments are left as they are, with the room behind their end, and answers share nothing with them.
func TestP1_1Memory(t *testing.T) {
	calls := map[string]func([]byte) []byte{
		"Number short": func(b []byte) []byte { return wire.Number(b, 3) },
		"Number long":  func(b []byte) []byte { return wire.Number(b, math.MaxInt64) },
		"Text empty":   func(b []byte) []byte { return wire.Text(b, "") },
		"Text":         func(b []byte) []byte { return wire.Text(b, "text") },
	}
	for name, call := range calls {
		b := roomy([]byte("abc"))
		got := call(b)
		if !untouched(b, []byte("abc")) {
			t.Errorf("%s changes what it is given", name)
		}
		was := bytes.Clone(got)
		again := call(b)
		clear(got[:cap(got)])
		if !untouched(b, []byte("abc")) || !bytes.Equal(again, was) {
			t.Errorf("%s shares memory", name)
		}
	}
}

func TestP1_2Frame(t *testing.T) {
	for _, size := range []int{0, 1, 255, 256, 65535, api.MaxFrame} {
		b := bytes.Repeat([]byte{7}, size)
		want := append([]byte{byte(size >> 16), byte(size >> 8), byte(size)}, b...)
		s := crc32.Checksum(want, crc32.MakeTable(crc32.Castagnoli))
		want = append(want, byte(s>>24), byte(s>>16), byte(s>>8), byte(s))
		if got, e := wire.Frame(b); e != api.OK || !bytes.Equal(got, want) {
			t.Errorf("the frame of %d bytes is another one (error %d)", size, e)
		}
		if got, n, e := wire.Unframe(want); e != api.OK || n != size+7 || !bytes.Equal(got, b) {
			t.Errorf("Unframe of %d bytes: %d bytes, %d, error %d", size, len(got), n, e)
		}
	}
	for _, size := range []int{api.MaxFrame + 1, 1 << 17, 1 << 24} {
		if got, e := wire.Frame(make([]byte, size)); e != api.ErrLong || len(got) != 0 {
			t.Errorf("Frame of %d bytes: %d bytes, error %d", size, len(got), e)
		}
	}
}

func TestP1_2UnframeErrors(t *testing.T) {
	whole := frame(t, []byte("abc"))
	most := frame(t, make([]byte, api.MaxFrame))
	for _, x := range []struct {
		name string
		b    []byte
		want api.Errno
	}{
		{"nil", nil, api.ErrShort},
		{"empty", []byte{}, api.ErrShort},
		{"two bytes", []byte{0xff, 0xff}, api.ErrShort},
		{"a length alone", []byte{0, 0, 0}, api.ErrShort},
		{"no sum", whole[:6], api.ErrShort},
		{"a byte too few", whole[:9], api.ErrShort},
		{"MaxFrame that is not there", []byte{1, 0, 0}, api.ErrShort},
		{"MaxFrame without a byte of its sum", most[:len(most)-1], api.ErrShort},
		{"one more than MaxFrame, nothing behind", []byte{1, 0, 1}, api.ErrLong},
		{"one more than MaxFrame, all behind", append([]byte{1, 0, 1}, make([]byte, api.MaxFrame+5)...), api.ErrLong},
		{"the longest length", []byte{0xff, 0xff, 0xff, 1}, api.ErrLong},
		{"another sum", []byte{0, 0, 0, 0, 0, 0, 0}, api.ErrSum},
		{"a length that is one less", append([]byte{0, 0, 2}, whole[3:]...), api.ErrSum},
	} {
		got, n, e := wire.Unframe(x.b)
		if e != x.want || len(got) != 0 || n != 0 {
			t.Errorf("%s: %d bytes, %d, error %d, want error %d", x.name, len(got), n, e, x.want)
		}
		if list, n := wire.Frames(x.b); len(list) != 0 || n != 0 {
			t.Errorf("%s: Frames has %d, of %d bytes", x.name, len(list), n)
		}
	}
}

func TestP1_2Frames(t *testing.T) {
	a, none, c := frame(t, []byte("a")), frame(t, nil), frame(t, []byte("ccc"))
	bad := bytes.Clone(c)
	bad[3]++
	long := []byte{1, 0, 1, 0, 0, 0, 0, 0}
	for _, x := range []struct {
		name string
		b    []byte
		want []string
	}{
		{"one", a, []string{"a"}},
		{"three", joined(a, none, c), []string{"a", "", "ccc"}},
		{"a torn one behind", joined(a, c[:5]), []string{"a"}},
		{"a turned one between", joined(a, none, bad, c), []string{"a", ""}},
		{"a long one between", joined(c, long, a), []string{"ccc"}},
	} {
		list, n := wire.Frames(x.b)
		size := 0
		for i := range list {
			size += len(list[i]) + 7
			if i >= len(x.want) || string(list[i]) != x.want[i] {
				t.Errorf("%s: number %d is %q", x.name, i, list[i])
			}
		}
		if len(list) != len(x.want) || n != size {
			t.Errorf("%s: %d frames of %d bytes, want %d of %d", x.name, len(list), n, len(x.want), size)
		}
	}
}

func TestP1_2Memory(t *testing.T) {
	b := roomy([]byte("abc"))
	f, _ := wire.Frame(b)
	clear(f[:cap(f)])
	if !untouched(b, []byte("abc")) {
		t.Error("Frame shares memory with what it is given")
	}
	two := joined(frame(t, []byte("abc")), frame(t, []byte("def")))
	given := roomy(two)
	payload, _, _ := wire.Unframe(given)
	list, _ := wire.Frames(given)
	clear(payload[:cap(payload)])
	clear(list[0][:cap(list[0])])
	if !untouched(given, two) {
		t.Error("a payload shares memory with the frame")
	}
	if string(list[1]) != "def" {
		t.Error("payloads share memory with one another")
	}
}

func TestP1_6UnframeOfFrame(t *testing.T) {
	r := rand.New(rand.NewSource(6))
	for size := range 300 {
		b := randomBytes(r, size)
		f := frame(t, b)
		got, n, e := wire.Unframe(append(f, randomBytes(r, r.Intn(20))...))
		if e != api.OK || n != len(f) || !bytes.Equal(got, b) {
			t.Fatalf("% x came back as % x (%d, error %d)", b, got, n, e)
		}
	}
}

func TestP1_8Order(t *testing.T) {
	for i := range forms {
		for j := range forms {
			a, b := wire.Number(nil, forms[i].n), wire.Number(nil, forms[j].n)
			if (bytes.Compare(a, b) < 0) != (forms[i].n < forms[j].n) {
				t.Errorf("% x and % x", a, b)
			}
		}
	}
	r := rand.New(rand.NewSource(8))
	for range 10000 {
		a, b := randomNumber(r), randomNumber(r)
		if bytes.Compare(wire.Number(nil, a), wire.Number(nil, b)) != compare(a, b) {
			t.Fatal(a, b)
		}
	}
}

func TestP1_9Torn(t *testing.T) {
	ahead := joined(frame(t, []byte("first")), frame(t, nil))
	for _, size := range []int{0, 1, 40, 300} {
		f := frame(t, bytes.Repeat([]byte{0x5a}, size))
		for n := range len(f) {
			if _, _, e := wire.Unframe(f[:n]); e != api.ErrShort {
				t.Fatalf("%d of %d bytes: error %d", n, len(f), e)
			}
			if list, k := wire.Frames(joined(ahead, f[:n])); len(list) != 2 || k != len(ahead) {
				t.Fatalf("%d of %d bytes: %d frames of %d bytes", n, len(f), len(list), k)
			}
		}
		for i := 3; i < len(f); i++ {
			for turn := 1; turn < 256; turn++ {
				f[i] ^= byte(turn)
				if got, n, e := wire.Unframe(f); e != api.ErrSum || len(got) != 0 || n != 0 {
					t.Fatalf("byte %d turned by %x: error %d", i, turn, e)
				}
				f[i] ^= byte(turn)
			}
		}
	}
	most := frame(t, make([]byte, api.MaxFrame))
	for _, n := range []int{3, 4, 1000, api.MaxFrame + 2, api.MaxFrame + 3, api.MaxFrame + 6} {
		if _, _, e := wire.Unframe(most[:n]); e != api.ErrShort {
			t.Errorf("%d bytes of the longest frame: error %d", n, e)
		}
	}
}

func frame(t *testing.T, b []byte) []byte {
	t.Helper()
	f, e := wire.Frame(b)
	if e != api.OK {
		t.Fatalf("Frame of %d bytes: error %d", len(b), e)
	}
	return f
}

func joined(parts ...[]byte) []byte { return bytes.Join(parts, nil) }

func randomBytes(r *rand.Rand, size int) []byte {
	b := make([]byte, size)
	r.Read(b)
	return b
}

// randomNumber is as often one of few bits as one of many.
func randomNumber(r *rand.Rand) int { return int(r.Uint64() >> (1 + r.Intn(63))) }

func compare(a, b int) int {
	switch {
	case a < b:
		return -1
	case a > b:
		return 1
	}
	return 0
}
