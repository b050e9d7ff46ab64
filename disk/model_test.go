package disk_test

import (
	"bytes"
	"maps"
	"math/rand"
	"slices"
	"strconv"
	"strings"
	"testing"

	"blotter/api"
	"blotter/disk"
)

var modelNames = []string{"a", "b", "c"}

// deed is an act of the model: kind w, c or d.
type deed struct {
	kind  byte
	name  string
	at    int
	bytes string
	lasts bool
}

// model is a disk that keeps every act for ever, and works out all else of them.
type model struct {
	room  int
	deeds []deed
	peaks map[string]int
}

func (m *model) files(lastingOnly bool) map[string]string {
	out := map[string]string{}
	for _, a := range m.deeds {
		if lastingOnly && !a.lasts {
			continue
		}
		b, ok := out[a.name]
		switch {
		case a.kind == 'w':
			b += strings.Repeat("\x00", max(0, a.at-len(b)))
			out[a.name] = b[:a.at] + a.bytes
		case a.kind == 'c' && ok && len(b) > a.at:
			out[a.name] = b[:a.at]
		case a.kind == 'd':
			delete(out, a.name)
		}
	}
	return out
}

func (m *model) pending() []int {
	var out []int
	for i, a := range m.deeds {
		if !a.lasts {
			out = append(out, i)
		}
	}
	return out
}

func (m *model) used() int {
	sum := 0
	for _, n := range m.peaks {
		sum += n
	}
	return sum
}

// settle brings the peaks up to date behind a call.
func (m *model) settle() {
	waits := map[string]int{}
	for _, i := range m.pending() {
		waits[m.deeds[i].name]++
	}
	files := m.files(false)
	for _, name := range modelNames {
		if waits[name] == 0 {
			m.peaks[name] = 0
		}
		m.peaks[name] = max(m.peaks[name], len(files[name]))
	}
}

func (m *model) write(name, b string) api.Errno {
	files := m.files(false)
	size := len(files[name]) + len(b)
	if m.used()-m.peaks[name]+max(m.peaks[name], size) > m.room {
		return api.ErrFull
	}
	m.deeds = append(m.deeds, deed{kind: 'w', name: name, at: len(files[name]), bytes: b})
	return api.OK
}

func (m *model) cut(name string, n int) api.Errno {
	b, ok := m.files(false)[name]
	if !ok {
		return api.ErrFile
	}
	if n < 0 || n > len(b) {
		return api.ErrArg
	}
	m.deeds = append(m.deeds, deed{kind: 'c', name: name, at: n})
	return api.OK
}

func (m *model) drop(name string) api.Errno {
	if _, ok := m.files(false)[name]; !ok {
		return api.ErrFile
	}
	m.deeds = append(m.deeds, deed{kind: 'd', name: name})
	return api.OK
}

func (m *model) sync(name string) api.Errno {
	if _, ok := m.files(false)[name]; !ok {
		return api.ErrFile
	}
	for i := range m.deeds {
		m.deeds[i].lasts = m.deeds[i].lasts || m.deeds[i].name == name
	}
	return api.OK
}

func (m *model) flush() api.Errno {
	for i := range m.deeds {
		m.deeds[i].lasts = true
	}
	return api.OK
}

func (m *model) crash(keep []bool, tear int) api.Errno {
	last := -1
	for i, at := range m.pending() {
		if i < len(keep) && keep[i] {
			m.deeds[at].lasts = true
			last = at
		}
	}
	if last >= 0 && tear > 0 {
		b := m.deeds[last].bytes
		m.deeds[last].bytes = b[:len(b)-min(tear, len(b))]
	}
	m.deeds = slices.DeleteFunc(m.deeds, func(a deed) bool { return !a.lasts })
	return api.OK
}

func (m *model) told() string {
	var out strings.Builder
	files := m.files(false)
	for _, name := range slices.Sorted(maps.Keys(files)) {
		out.WriteString(name + "=" + strconv.Quote(files[name]) + " 0\n")
	}
	for _, n := range []int{len(m.pending()), m.used(), m.room} {
		out.WriteString(strconv.Itoa(n) + " ")
	}
	return out.String()
}

// step does one call by chance on both, and answers what both say.
func step(r *rand.Rand, d *disk.Disk, m *model) (string, api.Errno, api.Errno) {
	name := modelNames[r.Intn(len(modelNames))]
	switch k := r.Intn(20); {
	case k < 9:
		b := bytes.Repeat([]byte{byte('a' + r.Intn(26))}, r.Intn(6))
		return "write", d.Write(name, b), m.write(name, string(b))
	case k < 12:
		n := r.Intn(8) - 1
		return "cut", d.Cut(name, n), m.cut(name, n)
	case k < 14:
		return "drop", d.Drop(name), m.drop(name)
	case k < 16:
		return "sync", d.Sync(name), m.sync(name)
	case k < 17:
		return "flush", d.Flush(), m.flush()
	case k < 19:
		keep, tear := chance(r, d.Pending()+r.Intn(3)), r.Intn(6)-1
		return "crash", d.Crash(keep, tear), m.crash(keep, tear)
	}
	return "crash of all", d.Crash(nil, 1), m.crash(nil, 1)
}

func chance(r *rand.Rand, n int) []bool {
	out := make([]bool, n)
	for i := range out {
		out[i] = r.Intn(2) == 0
	}
	return out
}

// P2.1 to P2.6 hold of any calls: the disk tells what the model does. P2.9 holds in each step.
func TestP2_9AnyCalls(t *testing.T) {
	for seed := range int64(1500) {
		r := rand.New(rand.NewSource(seed))
		room := r.Intn(40)
		d, m := fresh(t, room), &model{room: room, peaks: map[string]int{}}
		for i := range 60 {
			before := told(d)
			what, got, want := step(r, d, m)
			m.settle()
			if got != want || told(d) != m.told() {
				t.Fatalf("seed %d, step %d (%s): error %d, want %d\n%s\n%s", seed, i, what, got, want, told(d), m.told())
			}
			if got != api.OK && told(d) != before {
				t.Fatalf("seed %d, step %d (%s): error %d, and something has changed", seed, i, what, got)
			}
			if all := allBytes(d); all > d.Used() || d.Used() > d.Room() {
				t.Fatalf("seed %d, step %d (%s): %d bytes, used %d, room %d", seed, i, what, all, d.Used(), d.Room())
			}
		}
	}
}

func allBytes(d *disk.Disk) int {
	sum := 0
	for _, name := range d.List() {
		b, _ := d.Read(name)
		sum += len(b)
	}
	return sum
}

// someCalls is a disk behind calls by chance, and its model.
func someCalls(t *testing.T, r *rand.Rand) (*disk.Disk, *model) {
	t.Helper()
	d, m := fresh(t, 60), &model{room: 60, peaks: map[string]int{}}
	for range r.Intn(40) {
		step(r, d, m)
		m.settle()
	}
	return d, m
}

// A disk and its clone, each with calls of its own, tell what two models do.
func TestP2_6CloneGoesItsOwnWay(t *testing.T) {
	for seed := range int64(300) {
		r := rand.New(rand.NewSource(seed))
		d, m := someCalls(t, r)
		disks := []*disk.Disk{d, d.Clone()}
		models := []*model{m, {room: m.room, deeds: slices.Clone(m.deeds), peaks: maps.Clone(m.peaks)}}
		for i := range 60 {
			k := r.Intn(2)
			what, got, want := step(r, disks[k], models[k])
			models[k].settle()
			if got != want || told(disks[0]) != models[0].told() || told(disks[1]) != models[1].told() {
				t.Fatalf("seed %d, step %d (%s of number %d): error %d, want %d", seed, i, what, k, got, want)
			}
		}
	}
}

func seenFiles(d *disk.Disk) map[string]string {
	out := map[string]string{}
	for _, name := range d.List() {
		b, _ := d.Read(name)
		out[name] = string(b)
	}
	return out
}

func TestP2_7WhatLastsStays(t *testing.T) {
	for seed := range int64(500) {
		r := rand.New(rand.NewSource(seed))
		d, _ := someCalls(t, r)
		must(t, d.Flush())
		was := told(d)
		must(t, d.Crash(chance(r, 5), r.Intn(5)))
		if told(d) != was {
			t.Fatalf("seed %d: a crash behind Flush changes something", seed)
		}

		d = fresh(t, 30)
		must(t, d.Write("a", []byte("gone")), d.Drop("a"), d.Write("a", []byte("synced")), d.Sync("a"))
		for range r.Intn(6) {
			if e := d.Write("a", []byte("more")); e != api.OK && e != api.ErrFull {
				t.Fatal(e)
			}
		}
		must(t, d.Crash(chance(r, 8), r.Intn(9)))
		if b, e := d.Read("a"); e != api.OK || !bytes.HasPrefix(b, []byte("synced")) {
			t.Fatalf("seed %d: %q, error %d", seed, b, e)
		}
	}
}

func TestP2_8AllOrNothing(t *testing.T) {
	for seed := range int64(500) {
		r := rand.New(rand.NewSource(seed))
		d, m := someCalls(t, r)
		all, none := d.Clone(), d.Clone()
		yes := slices.Repeat([]bool{true}, d.Pending())
		must(t, all.Crash(yes, 0), none.Crash(make([]bool, len(yes)), 0))
		if !maps.Equal(seenFiles(all), seenFiles(d)) {
			t.Fatalf("seed %d: a crash that keeps all changes something", seed)
		}
		if !maps.Equal(seenFiles(none), m.files(true)) {
			t.Fatalf("seed %d: a crash that keeps nothing leaves %v, want %v", seed, seenFiles(none), m.files(true))
		}
	}
}
