package disk_test

import (
	"bytes"
	"math"
	"slices"
	"strconv"
	"strings"
	"testing"

	"blotter/api"
	"blotter/disk"
)

func fresh(t *testing.T, room int) *disk.Disk {
	t.Helper()
	d, e := disk.New(room)
	if e != api.OK || d == nil {
		t.Fatalf("New(%d): error %d", room, e)
	}
	return d
}

// must asks that calls answered OK.
func must(t *testing.T, all ...api.Errno) {
	t.Helper()
	for i, e := range all {
		if e != api.OK {
			t.Fatalf("call %d: error %d", i, e)
		}
	}
}

// told is all that a disk tells, but for what a crash would leave.
func told(d *disk.Disk) string {
	var out strings.Builder
	for _, name := range d.List() {
		b, e := d.Read(name)
		out.WriteString(name + "=" + strconv.Quote(string(b)) + " " + strconv.Itoa(int(e)) + "\n")
	}
	for _, n := range []int{d.Pending(), d.Used(), d.Room()} {
		out.WriteString(strconv.Itoa(n) + " ")
	}
	return out.String()
}

// wantFiles asks that a disk has just these files: name, bytes, name, bytes ..
func wantFiles(t *testing.T, d *disk.Disk, pairs ...string) {
	t.Helper()
	var names []string
	for i := 0; i < len(pairs); i += 2 {
		names = append(names, pairs[i])
		if b, e := d.Read(pairs[i]); e != api.OK || string(b) != pairs[i+1] {
			t.Errorf("%s has %q, error %d, want %q", pairs[i], b, e, pairs[i+1])
		}
	}
	if got := d.List(); !slices.Equal(got, names) {
		t.Errorf("files %q, want %q", got, names)
	}
}

func TestP2_1New(t *testing.T) {
	for _, room := range []int{-1, math.MinInt, api.MaxRoom + 1, math.MaxInt} {
		if d, e := disk.New(room); d != nil || e != api.ErrArg {
			t.Errorf("New(%d): %v, error %d", room, d, e)
		}
	}
	for _, room := range []int{0, 1, 1000, api.MaxRoom} {
		d := fresh(t, room)
		if d.Room() != room || d.Used() != 0 || d.Pending() != 0 || len(d.List()) != 0 {
			t.Errorf("New(%d): %s", room, told(d))
		}
	}
}

func TestP2_1ReadAndList(t *testing.T) {
	d := fresh(t, 100)
	for _, name := range []string{"b", "a.b", "ab", "a", "0", ".", "10", "9"} {
		must(t, d.Write(name, []byte("of "+name)))
	}
	wantFiles(t, d, ".", "of .", "0", "of 0", "10", "of 10", "9", "of 9", "a", "of a", "a.b", "of a.b", "ab", "of ab", "b", "of b")
	if b, e := d.Read("c"); len(b) != 0 || e != api.ErrFile {
		t.Errorf("no file: %q, error %d", b, e)
	}
}

func TestP2_1Names(t *testing.T) {
	longest := strings.Repeat("z", 24)
	for _, name := range []string{"a", "z", "0", "9", ".", "..", "abcdefghijklmnopqrstuvwx", "yz.0123456789", longest} {
		d := fresh(t, 10)
		must(t, d.Write(name, []byte("x")), d.Cut(name, 0), d.Sync(name), d.Drop(name))
		if _, e := d.Read(name); e != api.ErrFile {
			t.Errorf("%q: error %d", name, e)
		}
	}
	wrong := []string{"", longest + "z", strings.Repeat("z", 1000), "\xc3\xa9", "\x00", "a\x00", "A"}
	for c := range 256 {
		if one := string([]byte{byte(c)}); !strings.Contains("abcdefghijklmnopqrstuvwxyz0123456789.", one) {
			wrong = append(wrong, one, "a"+one, one+"a", "a"+one+"a")
		}
	}
	d := fresh(t, 0)
	was := told(d)
	for _, name := range wrong {
		_, e := d.Read(name)
		for i, e := range []api.Errno{e, d.Write(name, []byte("x")), d.Cut(name, -1), d.Drop(name), d.Sync(name)} {
			if e != api.ErrName {
				t.Errorf("%q, call %d: error %d", name, i, e)
			}
		}
	}
	if told(d) != was {
		t.Error("a wrong name changes the disk")
	}
}

func TestP2_1Memory(t *testing.T) {
	d := fresh(t, 100)
	given := append(make([]byte, 0, 64), "abc"...)
	must(t, d.Write("a", given))
	given[0] = 'X'
	wantFiles(t, d, "a", "abc")
	must(t, d.Write("a", []byte("de")))
	got, _ := d.Read("a")
	clear(got[:cap(got)])
	wantFiles(t, d, "a", "abcde")
	names := d.List()
	names[0] = "b"
	wantFiles(t, d, "a", "abcde")
	must(t, d.Crash([]bool{true, true}, 0))
	wantFiles(t, d, "a", "abcde")
	if string(given[:cap(given)][3:6]) != "\x00\x00\x00" {
		t.Error("Write changes the room behind what it is given")
	}
	keep := append(make([]bool, 0, 8), true)
	must(t, d.Write("a", []byte("f")), d.Write("a", []byte("g")), d.Crash(keep, 0))
	wantFiles(t, d, "a", "abcdef")
	if !keep[0] || slices.Contains(keep[:8][1:], true) {
		t.Error("Crash changes what it is given")
	}
}

func TestP2_2Write(t *testing.T) {
	d := fresh(t, 5)
	must(t, d.Write("a", []byte("xy")), d.Write("a", []byte("z")), d.Write("b", nil), d.Write("c", []byte{}))
	wantFiles(t, d, "a", "xyz", "b", "", "c", "")
	if d.Pending() != 4 || d.Used() != 3 {
		t.Error(told(d))
	}
	was := told(d)
	if e := d.Write("a", []byte("123")); e != api.ErrFull {
		t.Errorf("error %d", e)
	}
	if e := d.Write("n", []byte("123")); e != api.ErrFull {
		t.Errorf("error %d", e)
	}
	if told(d) != was {
		t.Error("a refused write changes the disk")
	}
	must(t, d.Write("b", []byte("12")), d.Write("c", nil), d.Write("d", nil))
	wantFiles(t, d, "a", "xyz", "b", "12", "c", "", "d", "")
	if e := d.Write("d", []byte("1")); e != api.ErrFull {
		t.Errorf("error %d", e)
	}
}

func TestP2_2NoRoomAndMaxRoom(t *testing.T) {
	d := fresh(t, 0)
	if e := d.Write("a", []byte("x")); e != api.ErrFull {
		t.Errorf("error %d", e)
	}
	must(t, d.Write("a", nil), d.Flush(), d.Write("a", nil))
	wantFiles(t, d, "a", "")

	d = fresh(t, api.MaxRoom)
	if e := d.Write("a", make([]byte, api.MaxRoom+1)); e != api.ErrFull {
		t.Errorf("error %d", e)
	}
	must(t, d.Write("a", make([]byte, api.MaxRoom)))
	if e := d.Write("b", []byte("x")); e != api.ErrFull || d.Used() != api.MaxRoom {
		t.Errorf("error %d, used %d", e, d.Used())
	}
	must(t, d.Cut("a", 0), d.Sync("a"), d.Write("b", []byte("x")))
}

func TestP2_2MaxFiles(t *testing.T) {
	d := fresh(t, 10)
	for i := range api.MaxFiles {
		must(t, d.Write("f"+strconv.Itoa(i), nil))
	}
	if e := d.Write("g", nil); e != api.ErrFull || len(d.List()) != api.MaxFiles || d.Pending() != api.MaxFiles {
		t.Errorf("error %d", e)
	}
	must(t, d.Write("f7", []byte("x")), d.Flush(), d.Drop("f7"), d.Write("g", nil))
	if e := d.Write("h", nil); e != api.ErrFull {
		t.Errorf("error %d", e)
	}
	// The drop is lost, the new file is not: there is one more than may be made.
	must(t, d.Crash([]bool{false, true}, 0))
	if len(d.List()) != api.MaxFiles+1 {
		t.Errorf("%d files", len(d.List()))
	}
	must(t, d.Write("g", []byte("y")))
	for _, name := range []string{"f0", "f1"} {
		if e := d.Write("h", nil); e != api.ErrFull {
			t.Errorf("%d files: error %d", len(d.List()), e)
		}
		must(t, d.Drop(name))
	}
	must(t, d.Write("h", nil))
}

func TestP2_2Cut(t *testing.T) {
	d := fresh(t, 10)
	if e := d.Cut("a", -1); e != api.ErrFile {
		t.Errorf("no file: error %d", e)
	}
	must(t, d.Write("a", []byte("abcd")))
	was := told(d)
	for _, n := range []int{-1, math.MinInt, 5, math.MaxInt} {
		if e := d.Cut("a", n); e != api.ErrArg {
			t.Errorf("Cut to %d: error %d", n, e)
		}
	}
	if told(d) != was {
		t.Error("a refused cut changes the disk")
	}
	must(t, d.Cut("a", 4))
	wantFiles(t, d, "a", "abcd")
	must(t, d.Cut("a", 2))
	wantFiles(t, d, "a", "ab")
	must(t, d.Write("a", []byte("x")))
	wantFiles(t, d, "a", "abx")
	must(t, d.Cut("a", 0), d.Cut("a", 0))
	wantFiles(t, d, "a", "")
	if d.Pending() != 6 || d.Used() != 4 {
		t.Error(told(d))
	}
}

func TestP2_2Drop(t *testing.T) {
	d := fresh(t, 10)
	if e := d.Drop("a"); e != api.ErrFile || d.Pending() != 0 {
		t.Errorf("no file: error %d", e)
	}
	must(t, d.Write("a", []byte("abc")), d.Write("b", []byte("b")), d.Drop("a"))
	wantFiles(t, d, "b", "b")
	_, e := d.Read("a")
	for i, e := range []api.Errno{e, d.Drop("a"), d.Cut("a", 0), d.Sync("a")} {
		if e != api.ErrFile {
			t.Errorf("call %d: error %d", i, e)
		}
	}
	must(t, d.Write("a", []byte("x")))
	wantFiles(t, d, "a", "x", "b", "b")
	if d.Pending() != 4 {
		t.Errorf("%d pending", d.Pending())
	}
}

func TestP2_3SyncAndFlush(t *testing.T) {
	d := fresh(t, 100)
	must(t, d.Flush())
	must(t, d.Write("a", []byte("a1")), d.Write("b", []byte("b1")), d.Write("a", []byte("a2")), d.Write("b", []byte("b2")))
	must(t, d.Sync("a"))
	if d.Pending() != 2 {
		t.Errorf("%d pending", d.Pending())
	}
	e := d.Clone()
	must(t, e.Crash(nil, 0))
	wantFiles(t, e, "a", "a1a2")
	e = d.Clone()
	must(t, e.Crash([]bool{true}, 0))
	wantFiles(t, e, "a", "a1a2", "b", "b1")
	must(t, d.Drop("a"), d.Write("a", []byte("new")), d.Cut("a", 1), d.Sync("a"))
	e = d.Clone()
	must(t, e.Crash(nil, 0))
	wantFiles(t, e, "a", "n")
	must(t, d.Drop("a"), d.Flush())
	if d.Pending() != 0 {
		t.Errorf("%d pending", d.Pending())
	}
	must(t, d.Crash(nil, 9))
	wantFiles(t, d, "b", "b1b2")
	if e := d.Sync("c"); e != api.ErrFile {
		t.Errorf("error %d", e)
	}
	must(t, d.Sync("b"))
}

func TestP2_4Used(t *testing.T) {
	d := fresh(t, 20)
	step := func(e api.Errno, used int) {
		t.Helper()
		if e != api.OK || d.Used() != used {
			t.Errorf("error %d, used %d, want %d", e, d.Used(), used)
		}
	}
	step(d.Write("a", []byte("12345")), 5)
	step(d.Cut("a", 2), 5)
	step(d.Write("a", []byte("67")), 5)
	step(d.Write("a", []byte("89")), 6)
	step(d.Cut("a", 1), 6)
	step(d.Write("b", []byte("123")), 9)
	step(d.Sync("b"), 9)
	step(d.Sync("a"), 4)
	step(d.Drop("b"), 4)
	step(d.Write("b", []byte("1")), 4)
	step(d.Drop("b"), 4)
	step(d.Drop("a"), 4)
	step(d.Write("a", []byte("1234567")), 10)
	step(d.Cut("a", 3), 10)
	step(d.Flush(), 3)
	step(d.Drop("a"), 3)
	step(d.Write("c", []byte("1234")), 7)
	step(d.Crash([]bool{false, true}, 1), 6)
	step(d.Drop("a"), 6)
	step(d.Flush(), 3)
}

func TestP2_5Crash(t *testing.T) {
	begin := func() *disk.Disk {
		d := fresh(t, 100)
		must(t, d.Write("a", []byte("xy")), d.Sync("a"), d.Write("a", []byte("z")), d.Write("a", []byte("w")))
		return d
	}
	for i, x := range []struct {
		keep []bool
		tear int
		want string
	}{
		{[]bool{false, true}, 0, "xy\x00w"},
		{[]bool{false, true}, 1, "xy\x00"},
		{nil, 0, "xy"},
		{nil, 5, "xy"},
		{[]bool{}, 0, "xy"},
		{[]bool{true}, 0, "xyz"},
		{[]bool{true}, 1, "xy"},
		{[]bool{true, false}, math.MaxInt, "xy"},
		{[]bool{true, true}, 0, "xyzw"},
		{[]bool{true, true}, -1, "xyzw"},
		{[]bool{true, true}, math.MinInt, "xyzw"},
		{[]bool{true, true}, 1, "xyz"},
		{[]bool{true, true}, 2, "xyz"},
		{[]bool{false, false, true, true}, 1, "xy"},
		{[]bool{true, true, true}, 1, "xyz"},
	} {
		d := begin()
		must(t, d.Crash(x.keep, x.tear))
		wantFiles(t, d, "a", x.want)
		if d.Pending() != 0 || d.Used() != len(x.want) {
			t.Errorf("row %d: %s", i, told(d))
		}
		must(t, d.Crash(nil, 0))
		wantFiles(t, d, "a", x.want)
	}
}

// What is kept is done to files that it was not meant for.
func TestP2_5KeptWithoutOthers(t *testing.T) {
	for _, x := range []struct {
		name string
		keep []bool
		tear int
		want []string
	}{
		{"cut lost, write at its place", []bool{false, true}, 0, []string{"a", "abX"}},
		{"cut lost, write torn", []bool{false, true}, 1, []string{"a", "ab"}},
		{"cut kept", []bool{true}, 3, []string{"a", "ab"}},
		{"drop kept, write lost", []bool{false, false, true}, 0, nil},
		{"drop lost, write kept", []bool{false, false, false, true}, 0, []string{"a", "new"}},
		{"drop and write kept, write torn", []bool{false, false, true, true}, 2, []string{"a", "n"}},
		{"drop and write kept, write all torn", []bool{false, false, true, true}, 9, []string{"a", ""}},
		{"the drop between lost", []bool{false, true, false, true}, 0, []string{"a", "new"}},
		{"write behind a drop that made it", []bool{false, false, true, false, true}, 0, []string{"a", "\x00\x00\x00er"}},
		{"a cut of what is shorter", []bool{false, false, true, false, false, true}, 0, nil},
		{"a cut of what was not cut before", []bool{false, false, false, false, false, true}, 7, []string{"a", "abcd"}},
		{"a torn write behind which nothing is kept but a cut", []bool{false, true, false, false, false, true}, 1, []string{"a", "abX"}},
	} {
		d := fresh(t, 100)
		must(t, d.Write("a", []byte("abcdef")), d.Flush())
		must(t, d.Cut("a", 2), d.Write("a", []byte("X")), d.Drop("a"), d.Write("a", []byte("new")), d.Write("a", []byte("er")), d.Cut("a", 4))
		must(t, d.Crash(x.keep, x.tear))
		t.Run(x.name, func(t *testing.T) { wantFiles(t, d, x.want...) })
	}
}

// The tear is that of the last act of all that is kept, not of each file's last one.
func TestP2_5TearsOne(t *testing.T) {
	d := fresh(t, 100)
	must(t, d.Write("a", []byte("abc")), d.Write("b", []byte("def")), d.Write("c", []byte("ghi")))
	must(t, d.Crash([]bool{true, true, false}, 2))
	wantFiles(t, d, "a", "abc", "b", "d")
	must(t, d.Write("a", []byte("xyz")), d.Drop("b"), d.Crash([]bool{true, true}, 2))
	wantFiles(t, d, "a", "abcxyz")
}

func TestP2_6Clone(t *testing.T) {
	d := fresh(t, 50)
	must(t, d.Write("a", []byte("ab")), d.Sync("a"), d.Write("a", []byte("cd")), d.Write("b", []byte("x")), d.Cut("b", 0))
	e := d.Clone()
	was := told(d)
	if e == nil || e == d || told(e) != was {
		t.Fatal("the clone is another one")
	}
	must(t, e.Write("a", []byte("ef")), e.Drop("b"), e.Write("c", []byte("yy")), e.Sync("a"), e.Crash(nil, 0))
	wantFiles(t, e, "a", "abcdef")
	if told(d) != was {
		t.Error("what is done to the clone changes the first one")
	}
	e = d.Clone()
	must(t, d.Cut("a", 1), d.Write("a", []byte("ZZZZ")), d.Flush())
	if told(e) != was {
		t.Error("what is done to the first one changes the clone")
	}
	must(t, e.Crash([]bool{true, true}, 0))
	wantFiles(t, e, "a", "abcd", "b", "x")
}

func TestP2_6Unmade(t *testing.T) {
	for _, d := range []*disk.Disk{nil, {}, new(disk.Disk)} {
		b, e := d.Read("A")
		for i, e := range []api.Errno{e, d.Write("A", nil), d.Cut("A", -1), d.Drop("A"), d.Sync("A"), d.Flush(), d.Crash([]bool{true}, 1)} {
			if e != api.ErrNil {
				t.Errorf("call %d: error %d", i, e)
			}
		}
		if len(b) != 0 || len(d.List()) != 0 || d.Pending() != 0 || d.Used() != 0 || d.Room() != 0 || d.Clone() != nil {
			t.Error("a disk that no call made has something")
		}
	}
}

func TestP2_9Room(t *testing.T) {
	d := fresh(t, 3)
	must(t, d.Write("a", []byte("abc")), d.Drop("a"))
	if e := d.Write("b", []byte("x")); e != api.ErrFull {
		t.Errorf("a may come back: error %d", e)
	}
	must(t, d.Write("a", []byte("def")), d.Drop("a"))
	if e := d.Write("a", []byte("defg")); e != api.ErrFull {
		t.Errorf("error %d", e)
	}
	must(t, d.Flush(), d.Write("b", []byte("x")), d.Write("a", []byte("yz")))
	if d.Used() != 3 {
		t.Errorf("used %d", d.Used())
	}
}

func TestP2_10Apart(t *testing.T) {
	d, other := fresh(t, 100), fresh(t, 100)
	must(t, d.Write("a", []byte("a1")), d.Write("b", []byte("b1")), d.Write("c", []byte("c1")), other.Write("a", []byte("o")))
	must(t, d.Write("a", []byte("a2")), d.Cut("b", 1), d.Drop("c"), d.Write("d", bytes.Repeat([]byte{'d'}, 9)))
	wantFiles(t, d, "a", "a1a2", "b", "b", "d", "ddddddddd")
	wantFiles(t, other, "a", "o")
	must(t, d.Sync("b"))
	if other.Pending() != 1 || other.Used() != 1 {
		t.Error("the other disk has changed")
	}
	must(t, d.Crash(nil, 0))
	wantFiles(t, d, "b", "b")
	wantFiles(t, other, "a", "o")
}
