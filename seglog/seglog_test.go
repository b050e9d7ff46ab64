package seglog_test

import (
	"bytes"
	"fmt"
	"math"
	"slices"
	"strings"
	"testing"

	"blotter/api"
	"blotter/disk"
	"blotter/seglog"
	"blotter/wire"
)

func fresh(t *testing.T, room int) *disk.Disk {
	t.Helper()
	d, e := disk.New(room)
	if e != api.OK {
		t.Fatalf("New(%d): error %d", room, e)
	}
	return d
}

func open(t *testing.T, d *disk.Disk) *seglog.Log {
	t.Helper()
	l, e := seglog.Open(d)
	if e != api.OK || l == nil {
		t.Fatalf("Open: error %d", e)
	}
	return l
}

// must asks that calls answered OK.
func must(t *testing.T, all ...api.Errno) {
	t.Helper()
	for i, e := range all {
		if e != api.OK {
			t.Fatalf("call %d: error %d", i, e)
		}
	}
}

// add appends a record that must be taken.
func add(t *testing.T, l *seglog.Log, rec string) int {
	t.Helper()
	n, e := l.Append([]byte(rec))
	if e != api.OK {
		t.Fatalf("Append of %d bytes: error %d", len(rec), e)
	}
	return n
}

// name is a segment's file, by the document's words.
func name(first int) string { return fmt.Sprintf("seg.%019d", first) }

// frame is a record as it stands in a segment.
func frame(n int, rec string) string {
	f, _ := wire.Frame(append(wire.Number(nil, n), rec...))
	return string(f)
}

// plain is a frame of just these bytes.
func plain(payload string) string {
	f, _ := wire.Frame([]byte(payload))
	return string(f)
}

// frames is records of following numbers.
func frames(first int, recs ...string) string {
	var out strings.Builder
	for i, rec := range recs {
		out.WriteString(frame(first+i, rec))
	}
	return out.String()
}

// told is all that a log tells.
func told(l *seglog.Log) string {
	return fmt.Sprintf("%d %d %d %d %q", l.First(), l.Next(), l.Segments(), l.Bytes(), l.Read(math.MinInt))
}

// files is all that a disk's files have.
func files(d *disk.Disk) string {
	var out strings.Builder
	for _, name := range d.List() {
		b, _ := d.Read(name)
		fmt.Fprintf(&out, "%s %q\n", name, b)
	}
	return out.String()
}

func wantRecords(t *testing.T, l *seglog.Log, first, next int, recs ...string) {
	t.Helper()
	if l.First() != first || l.Next() != next {
		t.Errorf("First %d, Next %d, want %d, %d", l.First(), l.Next(), first, next)
	}
	got := l.Read(0)
	same := func(b []byte, s string) bool { return string(b) == s }
	if !slices.EqualFunc(got, recs, same) {
		t.Errorf("records %q, want %q", got, recs)
	}
}

func TestP5_1OpenOfUnmadeDisk(t *testing.T) {
	for _, d := range []*disk.Disk{nil, {}, new(disk.Disk)} {
		if l, e := seglog.Open(d); l != nil || e != api.ErrNil {
			t.Errorf("%v, error %d", l, e)
		}
	}
}

func TestP5_1OtherFilesAreLeftAlone(t *testing.T) {
	d := fresh(t, 10000)
	for _, other := range []string{
		"seg.", "seg.1", "seg", "log", "0000000000000000001", ".0000000000000000001",
		"seg.000000000000000001",   // eighteen digits
		"seg.00000000000000000001", // twenty
		"seg.0000000000000000000",  // n is from 1 on
		"seg.9223372036854775808",  // 2^63 is no number
		"seg.9999999999999999999",
		"seg.000000000000000000a", "seg.000000000000000.001", "seg0000000000000000001", "seh.0000000000000000001", "sega0000000000000000001",
		"aseg.0000000000000000001", "seg.seg.0000000000000001",
	} {
		must(t, d.Write(other, []byte(frame(1, other))))
	}
	was := files(d)
	l := open(t, d)
	wantRecords(t, l, 1, 1)
	if l.Segments() != 0 || l.Bytes() != 0 || files(d) != was || d.Pending() != 0 {
		t.Errorf("%s\n%s", told(l), files(d))
	}
	add(t, l, "a")
	if b, e := d.Read(name(1)); e != api.OK || string(b) != frame(1, "a") {
		t.Errorf("%q, error %d", b, e)
	}
}

// disks has files as somebody made them, and what Open makes of them: the numbers of the segments that stay, the first and the next number, the records.
var disks = []struct {
	what        string
	files       map[int]string
	stay        []int
	first, next int
	recs        []string
}{
	{"nothing", nil, nil, 1, 1, nil},
	{"one segment", map[int]string{1: frames(1, "a", "", "c")}, []int{1}, 1, 4, []string{"a", "", "c"}},
	{"an empty file", map[int]string{1: ""}, []int{1}, 1, 1, nil},
	{"an empty file farther on", map[int]string{5: ""}, []int{5}, 5, 5, nil},
	{"two that go on", map[int]string{1: frames(1, "a", "b"), 3: frames(3, "c")}, []int{1, 3}, 1, 4, []string{"a", "b", "c"}},
	{"three that go on, none from 1 on", map[int]string{7: frames(7, "a"), 8: frames(8, "b"), 9: frames(9, "c", "d")}, []int{7, 8, 9}, 7, 11, []string{"a", "b", "c", "d"}},
	{"two, the last one empty", map[int]string{1: frames(1, "a"), 2: ""}, []int{1, 2}, 1, 2, []string{"a"}},
	{"a gap", map[int]string{1: frames(1, "a", "b"), 4: frames(4, "c")}, []int{4}, 4, 5, []string{"c"}},
	{"an overlap", map[int]string{1: frames(1, "a", "b", "c"), 3: frames(3, "x")}, []int{3}, 3, 4, []string{"x"}},
	{"a gap ahead of two", map[int]string{1: frames(1, "a"), 3: frames(3, "b"), 4: frames(4, "c")}, []int{3, 4}, 3, 5, []string{"b", "c"}},
	{"two gaps", map[int]string{1: frames(1, "a"), 3: frames(3, "b"), 5: frames(5, "c")}, []int{5}, 5, 6, []string{"c"}},
	{"an empty one ahead", map[int]string{1: "", 2: frames(2, "b")}, []int{2}, 2, 3, []string{"b"}},
	{"an empty one between", map[int]string{1: frames(1, "a"), 2: "", 3: frames(3, "c")}, []int{3}, 3, 4, []string{"c"}},
	{"an empty one between, and one behind what was read ahead of it", map[int]string{1: frames(1, "a", "b", "c"), 2: "", 4: frames(4, "d")}, []int{4}, 4, 5, []string{"d"}},
	{"not whole, one behind that begins with the next", map[int]string{1: frames(1, "a", "b") + "x", 3: frames(3, "c")}, []int{3}, 3, 4, []string{"c"}},
	{"not whole, the last one", map[int]string{1: frames(1, "a"), 2: frames(2, "b") + frame(3, "c")[:8]}, []int{1, 2}, 1, 3, []string{"a", "b"}},
	{"not whole, the last one, nothing of it", map[int]string{1: frames(1, "a"), 2: "\x00\x00\x00\x00\x00\x00\x00"}, []int{1, 2}, 1, 2, []string{"a"}},
	{"not whole, all of two", map[int]string{1: frames(1, "a") + "x", 2: frames(2, "b") + "x"}, []int{2}, 2, 3, []string{"b"}},
	{"a hole", map[int]string{1: frame(1, "a") + strings.Repeat("\x00", 9) + frame(3, "c")}, []int{1}, 1, 2, []string{"a"}},
	{"a turned byte", map[int]string{1: frame(1, "a") + strings.Replace(frame(2, "b"), "b", "c", 1) + frame(3, "c")}, []int{1}, 1, 2, []string{"a"}},
	{"another number first", map[int]string{1: frames(2, "a", "b")}, []int{1}, 1, 1, nil},
	{"the number that was", map[int]string{1: frame(1, "a") + frame(1, "b")}, []int{1}, 1, 2, []string{"a"}},
	{"a number left out", map[int]string{1: frame(1, "a") + frame(3, "b") + frame(2, "c")}, []int{1}, 1, 2, []string{"a"}},
	{"a number in a longer form", map[int]string{1: frame(1, "a") + plain("\xf8\x02b")}, []int{1}, 1, 2, []string{"a"}},
	{"no number", map[int]string{1: frame(1, "a") + plain("") + frame(2, "b")}, []int{1}, 1, 2, []string{"a"}},
	{"half a number", map[int]string{256: frame(256, "a") + plain("\xf9\x01")}, []int{256}, 256, 257, []string{"a"}},
	{"numbers that grow by a byte", map[int]string{247: frames(247, "a", "b", "c")}, []int{247}, 247, 250, []string{"a", "b", "c"}},
	{"up to the last number", map[int]string{math.MaxInt - 2: frames(math.MaxInt-2, "a", "b")}, []int{math.MaxInt - 2}, math.MaxInt - 2, math.MaxInt, []string{"a", "b"}},
	{"the last number and a record", map[int]string{math.MaxInt - 1: frames(math.MaxInt-1, "a", "b")}, []int{math.MaxInt - 1}, math.MaxInt - 1, math.MaxInt, []string{"a"}},
	{"a segment of the last number", map[int]string{math.MaxInt: frame(math.MaxInt, "a")}, []int{math.MaxInt}, math.MaxInt, math.MaxInt, nil},
	{"one that goes on with the last number", map[int]string{math.MaxInt - 1: frame(math.MaxInt-1, "a"), math.MaxInt: "x"}, []int{math.MaxInt - 1, math.MaxInt}, math.MaxInt - 1, math.MaxInt, []string{"a"}},
	{"more behind the last record, and one more", map[int]string{math.MaxInt - 1: frames(math.MaxInt-1, "a", "b"), math.MaxInt: ""}, []int{math.MaxInt}, math.MaxInt, math.MaxInt, nil},
}

func TestP5_1Open(t *testing.T) {
	for _, x := range disks {
		t.Run(x.what, func(t *testing.T) {
			d := fresh(t, 10000)
			for first, b := range x.files {
				must(t, d.Write(name(first), []byte(b)))
			}
			l := open(t, d)
			wantRecords(t, l, x.first, x.next, x.recs...)
			var names []string
			size := 0
			for _, first := range x.stay {
				names = append(names, name(first))
				b, _ := d.Read(name(first))
				size += len(b)
				if !strings.HasPrefix(x.files[first], string(b)) {
					t.Errorf("segment %d is another one", first)
				}
			}
			want := 0
			for i, rec := range x.recs {
				want += len(frame(x.first+i, rec))
			}
			if !slices.Equal(d.List(), names) || size != want || l.Bytes() != want || l.Segments() != len(x.stay) {
				t.Errorf("files %q of %d bytes, want %q of %d: %s", d.List(), size, names, want, told(l))
			}
			if d.Pending() != 0 {
				t.Error("something is pending")
			}
		})
	}
}

// What was dropped and cut off does not come back.
func TestP5_1OpenFlushes(t *testing.T) {
	d := fresh(t, 10000)
	must(t, d.Write(name(1), []byte(frame(1, "a"))), d.Write(name(3), []byte(frame(3, "c")+"torn")), d.Write("other", []byte("o")))
	l := open(t, d)
	was := files(d)
	must(t, d.Crash(nil, 9))
	if files(d) != was || d.Used() != len(frame(3, "c"))+1 {
		t.Errorf("%s, was %s, used %d", files(d), was, d.Used())
	}
	wantRecords(t, l, 3, 4, "c")
	wantRecords(t, open(t, d), 3, 4, "c")
}

func TestP5_2AppendNumbersAndFiles(t *testing.T) {
	d := fresh(t, 1<<20)
	l := open(t, d)
	want := ""
	for i := 1; i <= 300; i++ {
		rec := strings.Repeat("r", i%4)
		if n := add(t, l, rec); n != i || l.Next() != i+1 || l.First() != 1 {
			t.Fatalf("number %d: %d, First %d, Next %d", i, n, l.First(), l.Next())
		}
		want += frame(i, rec)
		if b, e := d.Read(name(1)); e != api.OK || string(b) != want {
			t.Fatalf("number %d: the segment has %q", i, b)
		}
		if l.Bytes() != len(want) || l.Segments() != 1 || d.Pending() != i {
			t.Fatalf("number %d: %s", i, told(l))
		}
	}
}

// sized is a record whose frame, with a number of one byte, has so many bytes.
func sized(size int) string { return strings.Repeat("s", size-8) }

func TestP5_2FullSegment(t *testing.T) {
	for _, x := range []struct {
		sizes []int
		stay  []int // the numbers with which segments begin
	}{
		{[]int{api.Segment, 8}, []int{1, 2}},
		{[]int{api.Segment - 1, 8, 8}, []int{1, 3}},
		{[]int{api.Segment + 1, 8, 8}, []int{1, 2}},
		{[]int{8, api.Segment - 8, 8, 8}, []int{1, 3}},
		{[]int{8, api.Segment - 9, 9, 9}, []int{1, 4}},
		{[]int{8, api.MaxFrame, api.MaxFrame, 8}, []int{1, 3, 4}},
		{[]int{api.Segment, api.Segment, api.Segment, 8, 8}, []int{1, 2, 3, 4}},
	} {
		d := fresh(t, 1<<20)
		l := open(t, d)
		sum := 0
		for _, size := range x.sizes {
			add(t, l, sized(size))
			sum += size
		}
		var names []string
		for _, first := range x.stay {
			names = append(names, name(first))
		}
		if !slices.Equal(d.List(), names) || l.Segments() != len(names) || l.Bytes() != sum {
			t.Errorf("%v: files %q, want %q, %d bytes, want %d", x.sizes, d.List(), names, l.Bytes(), sum)
		}
		was := told(l)
		if again := told(open(t, d)); again != was {
			t.Errorf("%v: opened again it is another one", x.sizes)
		}
		if n := add(t, l, "x"); n != len(x.sizes)+1 {
			t.Errorf("%v: the next number is %d", x.sizes, n)
		}
	}
}

// The segment ahead lasts ahead of a new one, and only then.
func TestP5_2SyncAheadOfNewSegment(t *testing.T) {
	d := fresh(t, 1<<20)
	l := open(t, d)
	add(t, l, sized(8))
	add(t, l, sized(api.Segment-8))
	if d.Pending() != 2 {
		t.Fatalf("%d are pending ahead of a new segment", d.Pending())
	}
	add(t, l, "x")
	if d.Pending() != 1 {
		t.Fatalf("%d are pending behind a new segment's first record", d.Pending())
	}
	must(t, d.Crash(nil, 0))
	wantRecords(t, open(t, d), 1, 3, sized(8), sized(api.Segment-8))
}

func TestP5_2Long(t *testing.T) {
	for _, x := range []struct{ first, most int }{{1, api.MaxFrame - 1}, {247, api.MaxFrame - 1}, {248, api.MaxFrame - 2}, {1 << 16, api.MaxFrame - 4}, {math.MaxInt - 1, api.MaxFrame - 9}} {
		d := fresh(t, 1<<20)
		must(t, d.Write(name(x.first), nil))
		l := open(t, d)
		for _, size := range []int{x.most + 1, api.MaxFrame, api.MaxFrame + 1, 1 << 20} {
			was := told(l) + files(d)
			if n, e := l.Append(make([]byte, size)); n != 0 || e != api.ErrLong || told(l)+files(d) != was {
				t.Errorf("number %d, %d bytes: %d, error %d", x.first, size, n, e)
			}
		}
		if n, e := l.Append(make([]byte, x.most)); n != x.first || e != api.OK {
			t.Errorf("number %d, %d bytes: %d, error %d", x.first, x.most, n, e)
		}
	}
}

func TestP5_2Range(t *testing.T) {
	d := fresh(t, 1<<20)
	must(t, d.Write(name(math.MaxInt-2), nil))
	l := open(t, d)
	if n := add(t, l, "a"); n != math.MaxInt-2 {
		t.Fatal(n)
	}
	if n := add(t, l, "b"); n != math.MaxInt-1 {
		t.Fatal(n)
	}
	was := told(l) + files(d)
	for _, size := range []int{0, 1, api.MaxFrame + 1} { // ErrRange ahead of ErrLong
		if n, e := l.Append(make([]byte, size)); n != 0 || e != api.ErrRange {
			t.Errorf("%d bytes: %d, error %d", size, n, e)
		}
	}
	if told(l)+files(d) != was || told(open(t, d)) != told(l) {
		t.Error("something has changed")
	}
}

func TestP5_2Full(t *testing.T) {
	d := fresh(t, 20)
	l := open(t, d)
	if n, e := l.Append(make([]byte, 13)); n != 0 || e != api.ErrFull || l.Segments() != 0 || len(d.List()) != 0 {
		t.Fatalf("a first one: %d, error %d", n, e)
	}
	add(t, l, "aaaa")
	was := told(l) + files(d)
	if n, e := l.Append([]byte("b")); n != 0 || e != api.ErrFull || told(l)+files(d) != was {
		t.Fatalf("a second one: %d, error %d", n, e)
	}
	if n := add(t, l, ""); n != 2 {
		t.Fatalf("one that fits: %d", n)
	}

	d = fresh(t, api.Segment+8)
	l = open(t, d)
	add(t, l, sized(api.Segment))
	was = told(l) + files(d)
	if n, e := l.Append([]byte("b")); n != 0 || e != api.ErrFull || told(l)+files(d) != was {
		t.Fatalf("a second segment: %d, error %d", n, e)
	}
	if n := add(t, l, ""); n != 2 || l.Segments() != 2 {
		t.Fatalf("a second segment that fits: %d", n)
	}
}

// The disk's errors are told as they are: here somebody took files away.
func TestP5_2DiskErrors(t *testing.T) {
	d := fresh(t, 1<<20)
	l := open(t, d)
	add(t, l, sized(api.Segment))
	must(t, d.Drop(name(1)))
	was := told(l)
	if n, e := l.Append([]byte("x")); n != 0 || e != api.ErrFile {
		t.Errorf("Append: %d, error %d", n, e)
	}
	if e := l.Sync(); e != api.ErrFile {
		t.Errorf("Sync: error %d", e)
	}
	if told(l) != was {
		t.Error("something has changed")
	}

	d = fresh(t, 1<<20)
	l = open(t, d)
	for range 3 {
		add(t, l, sized(api.Segment))
	}
	must(t, d.Drop(name(1)))
	was = told(l)
	if e := l.Trim(3); e != api.ErrFile || told(l) != was {
		t.Errorf("Trim: error %d", e)
	}
}

func TestP5_2NoMoreFiles(t *testing.T) {
	d := fresh(t, api.MaxRoom)
	l := open(t, d)
	add(t, l, sized(api.Segment))
	for i := range api.MaxFiles - 1 {
		must(t, d.Write(fmt.Sprint("f", i), nil))
	}
	was := told(l)
	if n, e := l.Append(nil); n != 0 || e != api.ErrFull || told(l) != was {
		t.Errorf("%d, error %d", n, e)
	}
	must(t, d.Drop("f0"))
	if n, e := l.Append(nil); n != 2 || e != api.OK {
		t.Errorf("%d, error %d", n, e)
	}
}

func TestP5_3Sync(t *testing.T) {
	d := fresh(t, 1<<20)
	l := open(t, d)
	must(t, d.Write("other", []byte("o")), l.Sync())
	if d.Pending() != 1 {
		t.Error("Sync without a segment does something")
	}
	add(t, l, "a")
	add(t, l, "b")
	must(t, l.Sync())
	if d.Pending() != 1 {
		t.Errorf("%d are pending", d.Pending())
	}
	add(t, l, "c")
	must(t, d.Crash(nil, 0))
	wantRecords(t, open(t, d), 1, 3, "a", "b")
}

func TestP5_3Read(t *testing.T) {
	d := fresh(t, 1<<20)
	must(t, d.Write(name(5), nil))
	l := open(t, d)
	recs := []string{"a", sized(api.Segment), "", "d", sized(api.Segment), "f"}
	for _, rec := range recs {
		add(t, l, rec)
	}
	for _, x := range []struct{ from, skip int }{{math.MinInt, 0}, {-1, 0}, {0, 0}, {4, 0}, {5, 0}, {6, 1}, {7, 2}, {8, 3}, {9, 4}, {10, 5}, {11, 6}, {12, 6}, {math.MaxInt, 6}} {
		got := l.Read(x.from)
		if !slices.EqualFunc(got, recs[x.skip:], func(b []byte, s string) bool { return string(b) == s }) {
			t.Errorf("Read(%d) has %d records", x.from, len(got))
		}
	}
	if got := open(t, fresh(t, 0)).Read(0); len(got) != 0 {
		t.Errorf("Read of nothing: %q", got)
	}
}

func TestP5_3Trim(t *testing.T) {
	for _, x := range []struct{ to, first, segments int }{
		{math.MinInt, 1, 3}, {-1, 1, 3}, {0, 1, 3}, {1, 1, 3}, {2, 1, 3}, {3, 3, 2}, {4, 3, 2}, {5, 5, 1}, {6, 5, 1}, {7, 5, 1}, {math.MaxInt, 5, 1},
	} {
		d := fresh(t, 1<<20)
		l := open(t, d)
		for range 3 {
			add(t, l, sized(8))
			add(t, l, sized(api.Segment-8))
		}
		must(t, d.Write("other", []byte("o")))
		pending := d.Pending()
		must(t, l.Trim(x.to))
		if l.First() != x.first || l.Next() != 7 || l.Segments() != x.segments || l.Bytes() != x.segments*api.Segment || len(l.Read(0)) != 7-x.first {
			t.Errorf("Trim(%d): %s", x.to, told(l))
		}
		if x.segments == 3 && d.Pending() != pending || x.segments < 3 && d.Pending() != 0 {
			t.Errorf("Trim(%d): %d are pending, %d were", x.to, d.Pending(), pending)
		}
		if x.segments < 3 {
			must(t, d.Crash(nil, 0))
			if again := open(t, d); told(again) != told(l) || len(d.List()) != x.segments+1 {
				t.Errorf("Trim(%d), a crash: %s", x.to, told(again))
			}
		}
		if n := add(t, l, "next"); n != 7 {
			t.Errorf("Trim(%d): the next number is %d", x.to, n)
		}
	}
	if e := open(t, fresh(t, 0)).Trim(9); e != api.OK {
		t.Errorf("Trim of nothing: error %d", e)
	}
}

// A last segment without records takes the place of those ahead, too.
func TestP5_3TrimToAnEmptySegment(t *testing.T) {
	d := fresh(t, 1000)
	must(t, d.Write(name(1), []byte(frames(1, "a", "b"))), d.Write(name(3), nil))
	l := open(t, d)
	must(t, l.Trim(2))
	wantRecords(t, l, 1, 3, "a", "b")
	must(t, l.Trim(3))
	wantRecords(t, l, 3, 3)
	if n := add(t, l, "c"); n != 3 || l.Segments() != 1 {
		t.Error(n, told(l))
	}
	wantRecords(t, open(t, d), 3, 4, "c")
}

func TestP5_3Unmade(t *testing.T) {
	for _, l := range []*seglog.Log{nil, {}, new(seglog.Log)} {
		if n, e := l.Append([]byte("a")); n != 0 || e != api.ErrNil {
			t.Error("Append", n, e)
		}
		if n, e := l.Append(make([]byte, api.MaxFrame+1)); n != 0 || e != api.ErrNil {
			t.Error("Append of too much", n, e)
		}
		if l.Sync() != api.ErrNil || l.Trim(1) != api.ErrNil {
			t.Error("Sync, Trim")
		}
		if l.First() != 0 || l.Next() != 0 || l.Segments() != 0 || l.Bytes() != 0 || len(l.Read(0)) != 0 {
			t.Error(told(l))
		}
	}
}

func TestP5_3Memory(t *testing.T) {
	l := open(t, fresh(t, 1000))
	rec := append(make([]byte, 0, 64), "abc"...)
	whole := rec[:64]
	copy(whole[3:], bytes.Repeat([]byte{0xaa}, 61))
	if _, e := l.Append(rec); e != api.OK || !bytes.Equal(whole[3:], bytes.Repeat([]byte{0xaa}, 61)) || string(rec) != "abc" {
		t.Fatal("Append changes what it is given")
	}
	rec[0] = 'x'
	add(t, l, "def")
	got, again := l.Read(1), l.Read(1)
	if string(got[0]) != "abc" {
		t.Error("Append keeps what it is given")
	}
	clear(got[0][:cap(got[0])])
	if string(got[1]) != "def" || string(again[0]) != "abc" || string(l.Read(1)[0]) != "abc" {
		t.Error("answers share memory")
	}
	clear(got[:cap(got)])
	if len(l.Read(1)) != 2 || l.Read(1)[1] == nil {
		t.Error("the list of an answer is the log's")
	}
}
