package seglog_test

import (
	"fmt"
	"math/rand"
	"slices"
	"testing"

	"blotter/api"
	"blotter/disk"
	"blotter/seglog"
	"blotter/wire"
)

func chance(r *rand.Rand, n int) []bool {
	out := make([]bool, n)
	for i := range out {
		out[i] = r.Intn(2) == 0
	}
	return out
}

// someRecord is as often a short one as one that fills a segment, or half of it.
func someRecord(r *rand.Rand, i int) string {
	rec := fmt.Sprint("record ", i, " ")
	return rec + string(make([]byte, []int{0, 3, api.Segment / 2, api.Segment}[r.Intn(4)]))
}

// book is what a log was told: all records by number, how far they must be there, and from where on.
type book struct {
	recs   map[int]string
	first  int
	next   int
	synced int // records below it must be there behind a crash
}

// check asks that a log has just what the book says.
func (b *book) check(t *testing.T, what string, l *seglog.Log) {
	t.Helper()
	if l.First() != b.first || l.Next() != b.next {
		t.Fatalf("%s: First %d, Next %d, want %d, %d", what, l.First(), l.Next(), b.first, b.next)
	}
	got := l.Read(b.first)
	if len(got) != b.next-b.first {
		t.Fatalf("%s: %d records, want %d", what, len(got), b.next-b.first)
	}
	size := 0
	for i, rec := range got {
		if string(rec) != b.recs[b.first+i] {
			t.Fatalf("%s: record %d is another one", what, b.first+i)
		}
		size += len(wire.Number(nil, b.first+i)) + len(rec) + 7
	}
	if l.Bytes() != size {
		t.Fatalf("%s: %d bytes, want %d", what, l.Bytes(), size)
	}
}

// crashed opens a log behind a crash: it may have lost its end, but nothing that was synced.
func (b *book) crashed(t *testing.T, what string, d *disk.Disk) *seglog.Log {
	t.Helper()
	l := open(t, d)
	if l.Next() < b.synced || l.Next() > b.next {
		t.Fatalf("%s: Next is %d behind a crash, synced %d, was %d", what, l.Next(), b.synced, b.next)
	}
	b.next, b.synced = l.Next(), l.Next()
	b.check(t, what, l)
	return l
}

// P5.2 to P5.7 hold of any calls and crashes.
func TestP5_4AnyCallsAndCrashes(t *testing.T) {
	lost := 0
	for seed := range int64(200) {
		r := rand.New(rand.NewSource(seed))
		d := fresh(t, 20000+r.Intn(60000))
		l := open(t, d)
		b := &book{recs: map[int]string{}, first: 1, next: 1, synced: 1}
		for i := range 60 {
			what := fmt.Sprint("seed ", seed, ", step ", i)
			switch k := r.Intn(20); {
			case k < 13:
				rec := someRecord(r, i)
				n, e := l.Append([]byte(rec))
				if e == api.ErrFull && n == 0 {
					break
				}
				if n != b.next || e != api.OK {
					t.Fatalf("%s: number %d, error %d, want %d", what, n, e, b.next)
				}
				b.recs[n] = rec
				b.next++
			case k < 15:
				must(t, l.Sync())
				b.synced = b.next
			case k < 17:
				to := b.first + r.Intn(b.next-b.first+2)
				before := l.Segments()
				must(t, l.Trim(to))
				if l.First() > to || l.Segments() < before && d.Pending() != 0 {
					t.Fatalf("%s: First is %d behind Trim(%d)", what, l.First(), to)
				}
				if l.Segments() < before { // it has flushed
					b.synced = b.next
				}
				b.first = l.First()
			default:
				was := b.next
				must(t, d.Crash(chance(r, d.Pending()), r.Intn(9)))
				l = b.crashed(t, what, d)
				lost += was - b.next
			}
			b.check(t, what, l)
		}
	}
	if lost < 100 {
		t.Errorf("only %d records were lost", lost)
	}
}

// Every set of writes that a crash may keep, and every place at which it may tear the last one.
func TestP5_4EveryCrash(t *testing.T) {
	d := fresh(t, 100000)
	l := open(t, d)
	b := &book{recs: map[int]string{}, first: 1, next: 1, synced: 1}
	put := func(rec string) {
		b.recs[add(t, l, rec)] = rec
		b.next++
	}
	put(sized(api.Segment - 20))
	put("synced")
	must(t, l.Sync())
	b.synced = 3
	for _, rec := range []string{"in the first", "in the second", "", "fourth"} {
		put(rec)
	}
	if l.Segments() != 2 {
		t.Fatal(told(l))
	}
	n := d.Pending()
	for set := range 1 << n {
		keep := make([]bool, n)
		for i := range keep {
			keep[i] = set>>i&1 == 1
		}
		for tear := range 25 {
			twin, copied := d.Clone(), *b
			must(t, twin.Crash(keep, tear))
			again := copied.crashed(t, fmt.Sprint(keep, " torn by ", tear), twin)
			if set == 1<<n-1 && tear == 0 && again.Next() != b.next {
				t.Errorf("all was kept, Next is %d", again.Next())
			}
		}
	}
}

// part is one frame of a segment as somebody might have made it.
func part(r *rand.Rand, n int) string {
	switch r.Intn(14) {
	case 0:
		return frame(n+r.Intn(3)-1, "other")
	case 1:
		return frame(n, "torn")[:r.Intn(10)]
	case 2:
		return "\x00\x00\x00\x00\x00\x00\x00"
	}
	return frame(n, fmt.Sprint("r", r.Intn(10)))
}

// someSegments is a disk with segments by chance, most of which go on with one another.
func someSegments(t *testing.T, r *rand.Rand) *disk.Disk {
	t.Helper()
	d := fresh(t, 100000)
	n := 1 + r.Intn(2)*r.Intn(300)
	for range r.Intn(5) {
		b := ""
		for range r.Intn(4) {
			b += part(r, n)
			n++
		}
		first := max(1, n-len(b)/10+r.Intn(3)/2)
		if _, e := d.Read(name(first)); e == api.ErrFile {
			must(t, d.Write(name(first), []byte(b)))
		}
		n = first + 1 + r.Intn(3)
	}
	return d
}

// chained is a disk of segments that mostly go on.
func chained(t *testing.T, r *rand.Rand) *disk.Disk {
	t.Helper()
	d := fresh(t, 100000)
	n := 1 + r.Intn(3)*r.Intn(130)
	for range 1 + r.Intn(6) {
		b, first := "", n
		for range 1 + r.Intn(4) {
			b += part(r, n)
			n++
		}
		must(t, d.Write(name(first), []byte(b)))
		if r.Intn(6) == 0 {
			n += 1 + r.Intn(2)
		}
	}
	return d
}

// seen is what is read of one segment, by the frames of its file.
func seen(d *disk.Disk, first int) (recs []string, whole bool) {
	b, _ := d.Read(name(first))
	payloads, size := wire.Frames(b)
	for i, p := range payloads {
		number := string(wire.Number(nil, first+i))
		if len(p) < len(number) || string(p[:len(number)]) != number {
			return recs, false
		}
		recs = append(recs, string(p[len(number):]))
	}
	return recs, size == len(b)
}

// firsts is the numbers with which a disk's segments begin.
func firsts(d *disk.Disk) []int {
	var out []int
	for _, file := range d.List() {
		n := 0
		fmt.Sscanf(file, "seg.%d", &n)
		out = append(out, n)
	}
	return out
}

// Open of any segments is those from the last one on that does not go on with the one ahead; opening twice is opening once (P5.5).
func TestP5_5AnySegments(t *testing.T) {
	longest := 0
	for seed := range int64(3000) {
		r := rand.New(rand.NewSource(seed))
		d := chained(t, r)
		if seed%2 == 0 {
			d = someSegments(t, r)
		}
		all := firsts(d)
		start, next := 0, 1
		var recs [][]string
		for i, first := range all {
			got, _ := seen(d, first)
			recs = append(recs, got)
			if i > 0 {
				if _, whole := seen(d, all[i-1]); !whole || first != all[i-1]+len(recs[i-1]) {
					start = i
				}
			}
			next = first + len(got)
		}
		wantFirst := 1
		if len(all) > 0 {
			wantFirst = all[start]
		}
		l := open(t, d)
		t.Run(fmt.Sprint("seed ", seed), func(t *testing.T) {
			wantRecords(t, l, wantFirst, next, slices.Concat(recs[min(start, len(recs)):]...)...)
			if !slices.Equal(firsts(d), all[min(start, len(all)):]) || l.Segments() != len(all)-start || d.Pending() != 0 {
				t.Errorf("segments %v of %v, from %d on", firsts(d), all, start)
			}
			was, had := told(l), files(d)
			if again := told(open(t, d)); again != was || files(d) != had {
				t.Errorf("opened again: %s, was %s", again, was)
			}
			if n := add(t, l, "next"); n != next || told(open(t, d)) != told(l) {
				t.Errorf("a record behind all: %d, want %d", n, next)
			}
		})
		longest = max(longest, l.Segments())
	}
	if longest < 4 {
		t.Errorf("at most %d segments went on", longest)
	}
}

// A call that has an error changes no record, on a disk with whatever room.
func TestP5_6Refused(t *testing.T) {
	refused := 0
	for room := range 200 {
		d := fresh(t, api.Segment+room)
		l := open(t, d)
		if _, e := l.Append([]byte(sized(api.Segment))); e != api.OK {
			t.Fatal(e)
		}
		for i := range 20 {
			was := told(l)
			n, e := l.Append([]byte(fmt.Sprint(i)))
			if e == api.OK {
				continue
			}
			refused++
			if n != 0 || e != api.ErrFull || told(l) != was || told(open(t, d.Clone())) != was {
				t.Fatalf("room %d: %d, error %d", room, n, e)
			}
		}
	}
	if refused == 0 {
		t.Error("nothing was refused")
	}
}

func TestP5_7Trimmed(t *testing.T) {
	for seed := range int64(200) {
		r := rand.New(rand.NewSource(seed))
		d := fresh(t, 1<<20)
		l := open(t, d)
		for i := range 20 {
			add(t, l, someRecord(r, i))
		}
		for range 5 {
			to := r.Intn(24) - 1
			kept, from := l.Read(to), max(to, l.First())
			must(t, l.Trim(to))
			got := l.Read(to)
			if !slices.EqualFunc(got, kept, slices.Equal) || l.First() > from {
				t.Fatalf("seed %d: Trim(%d) keeps %d records of %d, First is %d", seed, to, len(got), len(kept), l.First())
			}
		}
	}
}
