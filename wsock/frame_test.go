package wsock_test

import (
	"bytes"
	"encoding/binary"
	"math"
	"math/rand"
	"slices"
	"strings"
	"testing"
	"unicode/utf8"

	"blotter/api"
	"blotter/wsock"
)

var (
	ops    = []int{api.OpMore, api.OpText, api.OpBinary, api.OpClose, api.OpPing, api.OpPong}
	masks  = [][]byte{nil, {}, {0, 0, 0, 0}, {0x37, 0xfa, 0x21, 0x3d}, {255, 0, 1, 128}}
	theFin = api.Frame{Fin: true, Op: api.OpText, Load: []byte("Hello")}
)

func isControl(op int) bool { return op >= api.OpClose }

// bytesOf is a frame's bytes as the document says them, one by one.
func bytesOf(f api.Frame, mask []byte) []byte {
	first := byte(f.Op)
	if f.Fin {
		first += 128
	}
	second := byte(0)
	if len(mask) > 0 {
		second = 128
	}
	b := []byte{first}
	if len(f.Load) > 125 {
		b = binary.BigEndian.AppendUint16(append(b, second+126), uint16(len(f.Load)))
	} else {
		b = append(b, second+byte(len(f.Load)))
	}
	b = append(b, mask...)
	for i, c := range f.Load {
		if len(mask) > 0 {
			c ^= mask[i%4]
		}
		b = append(b, c)
	}
	return b
}

// pattern is so many bytes, no two halves of which are the same.
func pattern(n int) []byte {
	b := make([]byte, n)
	for i := range b {
		b[i] = byte(i + i>>8)
	}
	return b
}

// roomy is a copy of bytes with room behind its end, which has a mark of its own.
func roomy(b []byte) []byte {
	return append(bytes.Clone(b), bytes.Repeat([]byte{0xaa}, 32)...)[:len(b)]
}

func untouched(b, was []byte) bool {
	return bytes.Equal(b, was) && bytes.Equal(b[len(b):len(b)+32], bytes.Repeat([]byte{0xaa}, 32))
}

func sameFrame(f, g api.Frame) bool {
	return f.Fin == g.Fin && f.Op == g.Op && bytes.Equal(f.Load, g.Load)
}

func TestP9_2Write(t *testing.T) {
	b, _ := wsock.Write(theFin, nil)
	c, _ := wsock.Write(theFin, masks[3])
	if !bytes.Equal(b, []byte("\x81\x05Hello")) || !bytes.Equal(c, []byte("\x81\x85\x37\xfa\x21\x3d\x7f\x9f\x4d\x51\x58")) {
		t.Errorf("% x, % x", b, c)
	}
	for _, size := range []int{0, 1, 3, 4, 5, 124, 125, 126, 127, 128, 255, 256, 257, 16383, api.MaxMessage} {
		for _, op := range ops {
			for _, fin := range []bool{false, true} {
				for _, mask := range masks {
					f := api.Frame{Fin: fin, Op: op, Load: pattern(size)}
					got, e := wsock.Write(f, mask)
					if isControl(op) && (!fin || size > 125) {
						if len(got) != 0 || e != api.ErrFrame {
							t.Errorf("kind %d, fin %v, %d bytes: %d bytes, error %d", op, fin, size, len(got), e)
						}
					} else if !bytes.Equal(got, bytesOf(f, mask)) || e != api.OK {
						t.Errorf("kind %d, fin %v, %d bytes, mask % x: %d bytes, error %d", op, fin, size, mask, len(got), e)
					}
				}
			}
		}
	}
}

func TestP9_2WriteErrors(t *testing.T) {
	long := make([]byte, api.MaxMessage+1)
	for _, x := range []struct {
		f    api.Frame
		mask []byte
		want api.Errno
	}{
		{theFin, []byte{1}, api.ErrArg},
		{theFin, []byte{1, 2, 3}, api.ErrArg},
		{theFin, []byte{1, 2, 3, 4, 5}, api.ErrArg},
		{theFin, make([]byte, 8), api.ErrArg},
		{theFin, make([]byte, 256), api.ErrArg},
		{api.Frame{Op: 3, Load: long}, []byte{1}, api.ErrArg},
		{api.Frame{Op: 3, Load: long}, nil, api.ErrFrame},
		{api.Frame{Op: api.OpPing, Fin: true, Load: long}, nil, api.ErrFrame},
		{api.Frame{Op: api.OpBinary, Fin: true, Load: long}, nil, api.ErrLong},
		{api.Frame{Op: api.OpText, Load: long}, masks[3], api.ErrLong},
		{api.Frame{Op: api.OpMore, Load: make([]byte, 1<<17)}, nil, api.ErrLong},
		{api.Frame{Op: api.OpPong}, nil, api.ErrFrame},
		{api.Frame{Op: api.OpClose, Fin: true, Load: make([]byte, 126)}, nil, api.ErrFrame},
	} {
		if got, e := wsock.Write(x.f, x.mask); len(got) != 0 || e != x.want {
			t.Errorf("kind %d, %d bytes, mask of %d: %d bytes, error %d, want %d", x.f.Op, len(x.f.Load), len(x.mask), len(got), e, x.want)
		}
	}
	others := []int{math.MinInt, -1, 128, 129, 256, 257, 1<<32 + 1, math.MaxInt}
	for op := range 300 {
		if !slices.Contains(ops, op) {
			others = append(others, op)
		}
	}
	for _, op := range others {
		if got, e := wsock.Write(api.Frame{Fin: true, Op: op}, nil); len(got) != 0 || e != api.ErrFrame {
			t.Errorf("kind %d: % x, error %d", op, got, e)
		}
	}
}

func TestP9_2WriteMemory(t *testing.T) {
	for _, mask := range [][]byte{{}, {1, 2, 3, 4}} {
		load, key := roomy([]byte("Hello")), roomy(mask)
		f := api.Frame{Fin: true, Op: api.OpText, Load: load}
		b, _ := wsock.Write(f, key)
		c, _ := wsock.Write(f, key)
		was := bytes.Clone(c)
		clear(b[:cap(b)])
		if !untouched(load, []byte("Hello")) || !untouched(key, mask) || !bytes.Equal(c, was) {
			t.Error("Write changes what it is given, or shares it")
		}
	}
}

// wantRead asks for Read's answer, and that bytes and the room behind them stay as they are.
func wantRead(t *testing.T, b []byte, mask bool, f api.Frame, n, why int) {
	t.Helper()
	r := roomy(b)
	got, size, code := wsock.Read(r, mask)
	if !sameFrame(got, f) || size != n || code != why {
		t.Errorf("Read(% x, %v) = %v, %d, %d; want %v, %d, %d", b[:min(len(b), 20)], mask, got, size, code, f, n, why)
	}
	clear(got.Load[:cap(got.Load)])
	if !untouched(r, b) {
		t.Errorf("Read(% x) changes what it is given, or shares it", b)
	}
}

func TestP9_3Read(t *testing.T) {
	eight := func(n uint64) []byte { return binary.BigEndian.AppendUint64([]byte{0x82, 127}, n) }
	for _, x := range []struct {
		b    []byte
		mask bool
		why  int
	}{
		{nil, false, 1},
		{[]byte{}, true, 1},
		{[]byte{0x81}, false, 1},
		{[]byte{0x81}, true, 1},
		{[]byte{0x81, 5}, true, 1002},
		{[]byte{0x81, 0x85}, false, 1002},
		{[]byte{0x81, 0x85}, true, 1},
		{[]byte{9}, false, 1002}, // ahead of the second byte
		{[]byte{9, 0}, false, 1002},
		{[]byte{0x83}, false, 1002},
		{[]byte{0xc1}, false, 1002},
		{[]byte{0xa1}, false, 1002},
		{[]byte{0x91}, false, 1002},
		{[]byte{0x88, 126}, false, 1002}, // ahead of the size behind
		{[]byte{0x89, 127}, false, 1002},
		{[]byte{0x8a, 125}, false, 1},
		{[]byte{0x8a, 0xfe}, true, 1002},
		{[]byte{0x82, 126}, false, 1},
		{[]byte{0x82, 126, 0}, false, 1},
		{[]byte{0x82, 126, 0, 0}, false, 1002},
		{[]byte{0x82, 126, 0, 125}, false, 1002},
		{[]byte{0x82, 126, 0, 126}, false, 1},
		{[]byte{0x82, 126, 0x40, 0}, false, 1},
		{[]byte{0x82, 126, 0x40, 1}, false, 1009},
		{[]byte{0x82, 126, 0xff, 0xff}, false, 1009},
		{[]byte{0x82, 0xfe, 0, 125}, true, 1002},
		{[]byte{0x82, 0xfe, 0x40, 1}, true, 1009}, // ahead of the mask
		{[]byte{0x82, 0xfe, 0, 126, 1, 2, 3}, true, 1},
		{[]byte{0x82, 127, 0xff, 0xff, 0xff, 0xff, 0xff, 0xff, 0xff}, false, 1},
		{[]byte{0x82, 127, 0, 0, 0, 0, 0, 0, 0}, false, 1},
		{eight(0), false, 1002},
		{eight(126), false, 1002},
		{eight(65535), false, 1002},
		{eight(65536), false, 1009},
		{eight(1<<63 - 1), false, 1009},
		{eight(1 << 63), false, 1002},
		{eight(math.MaxUint64), false, 1002},
		{[]byte{0x82, 0x80, 1, 2, 3}, true, 1},
	} {
		wantRead(t, x.b, x.mask, api.Frame{}, 0, x.why)
	}
	wantRead(t, []byte{0x81, 0x80, 1, 2, 3, 4}, true, api.Frame{Fin: true, Op: api.OpText}, 6, 0)
	wantRead(t, []byte{0, 0, 0xff}, false, api.Frame{}, 2, 0)
	wantRead(t, bytesOf(theFin, masks[3]), true, theFin, 11, 0)
}

// readAs is Read by the document's order, one sentence a line, of sizes of one and two bytes.
func readAs(b []byte, mask bool) (f api.Frame, n, why int) {
	if len(b) == 0 {
		return f, 0, 1
	}
	fin, op := b[0] >= 128, int(b[0]%16)
	if b[0]&0x70 != 0 || !slices.Contains(ops, op) || isControl(op) && !fin {
		return f, 0, 1002
	}
	if len(b) == 1 {
		return f, 0, 1
	}
	size, at := int(b[1]%128), 2
	if (b[1] >= 128) != mask || isControl(op) && size > 125 {
		return f, 0, 1002
	}
	if size == 127 {
		return f, 0, -1
	}
	if size == 126 {
		if len(b) < 4 {
			return f, 0, 1
		}
		if size, at = int(binary.BigEndian.Uint16(b[2:])), 4; size <= 125 {
			return f, 0, 1002
		}
	}
	if size > 1<<14 {
		return f, 0, 1009
	}
	key := make([]byte, 4)
	if mask {
		if at += 4; len(b) < at {
			return f, 0, 1
		}
		key = b[at-4 : at]
	}
	if len(b) < at+size {
		return f, 0, 1
	}
	f = api.Frame{Fin: fin, Op: op}
	for i, c := range b[at : at+size] {
		f.Load = append(f.Load, c^key[i%4])
	}
	return f, at + size, 0
}

// All first two bytes, with some bytes behind them.
func TestP9_3Heads(t *testing.T) {
	behind := pattern(140)
	for first := range 256 {
		for second := range 256 {
			for _, size := range []int{0, 1, 2, 5, 139} {
				b := append([]byte{byte(first), byte(second)}, behind[1:1+size]...)
				for _, mask := range []bool{false, true} {
					f, n, why := readAs(b, mask)
					if why < 0 {
						continue
					}
					if got, m, code := wsock.Read(b, mask); !sameFrame(got, f) || m != n || code != why {
						t.Fatalf("Read(% x, %v) = %v, %d, %d; want %v, %d, %d", b, mask, got, m, code, f, n, why)
					}
				}
			}
		}
	}
}

func TestP9_4Text(t *testing.T) {
	good := func(n int) bool {
		return n >= 1000 && n <= 1003 || n >= 1007 && n <= 1011 || n >= 3000 && n <= 4999
	}
	codes := []int{math.MinInt, -1000, -1, math.MaxInt, 1<<16 + 1000, 1<<32 + 1000}
	for n := range 6000 {
		codes = append(codes, n)
	}
	for _, n := range codes {
		got, e := wsock.Text(n, "é!")
		if !good(n) {
			if len(got) != 0 || e != api.ErrArg {
				t.Errorf("code %d: % x, error %d", n, got, e)
			}
		} else if want := append(binary.BigEndian.AppendUint16(nil, uint16(n)), "é!"...); !bytes.Equal(got, want) || e != api.OK {
			t.Errorf("code %d: % x, error %d", n, got, e)
		}
	}
	for _, x := range []struct {
		code   int
		reason string
		want   api.Errno
	}{
		{1000, "", api.OK},
		{1000, strings.Repeat("x", 123), api.OK},
		{1000, strings.Repeat("x", 124), api.ErrLong},
		{1000, strings.Repeat("x", 121) + "é", api.OK},
		{1000, strings.Repeat("x", 122) + "é", api.ErrLong},
		{1000, strings.Repeat("x", 121) + "é"[:1], api.ErrFrame},
		{1000, "\xff", api.ErrFrame},
		{1000, "\xed\xa0\x80", api.ErrFrame},
		{1000, strings.Repeat("\xff", 200), api.ErrFrame}, // ahead of ErrLong
		{1005, strings.Repeat("\xff", 200), api.ErrArg},
		{1004, "", api.ErrArg},
		{1006, "", api.ErrArg},
		{1015, "", api.ErrArg},
	} {
		got, e := wsock.Text(x.code, x.reason)
		if e != x.want || e == api.OK && string(got) != "\x03\xe8"+x.reason || e != api.OK && len(got) != 0 {
			t.Errorf("Text(%d, %q) = % x, error %d, want error %d", x.code, x.reason, got, e, x.want)
		}
	}
}

// randomFrame is a frame that Write takes; one in some has a great load.
func randomFrame(r *rand.Rand) api.Frame {
	f := api.Frame{Fin: r.Intn(2) == 0, Op: ops[r.Intn(len(ops))]}
	size := r.Intn(126)
	if isControl(f.Op) {
		f.Fin = true
	} else if r.Intn(20) == 0 {
		size = r.Intn(api.MaxMessage + 1)
	}
	f.Load = make([]byte, size)
	r.Read(f.Load)
	return f
}

func TestP9_6ThereAndBack(t *testing.T) {
	r := rand.New(rand.NewSource(2))
	for range 2000 {
		f := randomFrame(r)
		mask := masks[r.Intn(len(masks))]
		b, e := wsock.Write(f, mask)
		if e != api.OK {
			t.Fatalf("error %d", e)
		}
		behind := make([]byte, r.Intn(10))
		r.Read(behind)
		if got, n, why := wsock.Read(append(bytes.Clone(b), behind...), len(mask) > 0); !sameFrame(got, f) || n != len(b) || why != 0 {
			t.Fatalf("%v came back as %v, %d of %d, %d", f, got, n, len(b), why)
		}
		cuts := []int{0, 1, 2, 3, 4, 5, 6, 7, 8, len(b) - 1, r.Intn(len(b))}
		for _, n := range cuts {
			if n >= len(b) {
				continue
			}
			if got, m, why := wsock.Read(b[:n], len(mask) > 0); !sameFrame(got, api.Frame{}) || m != 0 || why != 1 {
				t.Fatalf("%d of %d bytes: %v, %d, %d", n, len(b), got, m, why)
			}
		}
	}
}

func TestP9_7Masks(t *testing.T) {
	r := rand.New(rand.NewSource(3))
	for range 1000 {
		f := randomFrame(r)
		plain, _ := wsock.Write(f, nil)
		want, _, _ := wsock.Read(plain, false)
		for range 3 {
			mask := make([]byte, 4)
			r.Read(mask)
			b, _ := wsock.Write(f, mask)
			if got, n, why := wsock.Read(b, true); !sameFrame(got, want) || n != len(plain)+4 || why != 0 {
				t.Fatalf("mask % x: %v, %d, %d, want %v", mask, got, n, why, want)
			}
		}
	}
}

func FuzzRead(f *testing.F) {
	f.Add([]byte("\x81\x05Hello"), false)
	f.Add([]byte("\x82\x7f\x00\x00\x00\x00\x00\x01\x00\x00"), false)
	f.Fuzz(func(t *testing.T, b []byte, mask bool) {
		got, n, why := wsock.Read(b, mask)
		if why != 0 {
			if !sameFrame(got, api.Frame{}) || n != 0 || why != 1 && why != 1002 && why != 1009 {
				t.Fatalf("%v, %d, %d", got, n, why)
			}
			return
		}
		var key []byte
		if mask {
			key = b[n-len(got.Load)-4 : n-len(got.Load)]
		}
		if again, e := wsock.Write(got, key); !bytes.Equal(again, b[:n]) || e != api.OK {
			t.Fatalf("% x was read as %v", b[:n], got)
		}
	})
}

func TestP9_11Characters(t *testing.T) {
	for _, s := range []string{"", "a", "\xc0\x80", "\xf4\x90\x80\x80", "\U0010ffff", "\ud7ff", "\xed\xbf\xbf", "é"[:1]} {
		_, e := wsock.Text(1000, s)
		if (e == api.OK) != utf8.ValidString(s) {
			t.Errorf("%q: error %d", s, e)
		}
	}
}
