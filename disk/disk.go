// Package disk is layer 2: see ../../shared/doc/02-disk.md.
package disk

import (
	"bytes"
	"maps"
	"slices"

	"blotter/api"
)

// Disk is files as they are seen, as they last, and what is between.
type Disk struct {
	room    int
	lasting files
	seen    files // nil in a disk that no call made
	pending []act // what leads from lasting to seen, in its order

	// peaks has, of each name that is seen or pending, what Used counts of it; used is their sum.
	peaks map[string]int
	used  int
}

// New is an empty one with room for so many bytes.
func New(room int) (*Disk, api.Errno) {
	if room < 0 || room > api.MaxRoom {
		return nil, api.ErrArg
	}
	return &Disk{room: room, lasting: files{}, seen: files{}, peaks: map[string]int{}}, api.OK
}

// unmade tells whether no call made the disk.
func (d *Disk) unmade() bool { return d == nil || d.seen == nil }

// Write puts bytes behind a file's.
func (d *Disk) Write(name string, b []byte) api.Errno {
	if e := d.named(name); e != api.OK {
		return e
	}
	if !d.hasRoom(name, len(b)) {
		return api.ErrFull
	}
	d.perform(act{kind: write, name: name, at: len(d.seen[name]), bytes: b})
	return api.OK
}

// Cut leaves a file so many bytes.
func (d *Disk) Cut(name string, n int) api.Errno {
	if e := d.there(name); e != api.OK {
		return e
	}
	if n < 0 || n > len(d.seen[name]) {
		return api.ErrArg
	}
	d.perform(act{kind: cut, name: name, at: n})
	return api.OK
}

// Drop takes a file away.
func (d *Disk) Drop(name string) api.Errno {
	if e := d.there(name); e != api.OK {
		return e
	}
	d.perform(act{kind: drop, name: name})
	return api.OK
}

// Read is a file's bytes.
func (d *Disk) Read(name string) ([]byte, api.Errno) {
	if e := d.there(name); e != api.OK {
		return nil, e
	}
	return bytes.Clone(d.seen[name]), api.OK
}

// List is the names of all files.
func (d *Disk) List() []string {
	if d.unmade() {
		return nil
	}
	return slices.Sorted(maps.Keys(d.seen))
}

// Sync makes all last that was done to a file.
func (d *Disk) Sync(name string) api.Errno {
	if e := d.there(name); e != api.OK {
		return e
	}
	for _, a := range d.pending {
		if a.name == name {
			d.lasting.do(a)
		}
	}
	d.pending = slices.DeleteFunc(d.pending, func(a act) bool { return a.name == name })
	d.settle(name)
	return api.OK
}

// Flush makes all last.
func (d *Disk) Flush() api.Errno {
	if d.unmade() {
		return api.ErrNil
	}
	for _, a := range d.pending {
		d.lasting.do(a)
		d.settle(a.name)
	}
	d.pending = nil
	return api.OK
}

// Pending is how many acts do not last yet.
func (d *Disk) Pending() int {
	if d.unmade() {
		return 0
	}
	return len(d.pending)
}

// Used is how many bytes are not free, Room how many there are.
func (d *Disk) Used() int {
	if d.unmade() {
		return 0
	}
	return d.used
}

func (d *Disk) Room() int {
	if d.unmade() {
		return 0
	}
	return d.room
}

// Crash keeps some of what does not last, of the last of these not all, if that is bytes.
func (d *Disk) Crash(keep []bool, tear int) api.Errno {
	if d.unmade() {
		return api.ErrNil
	}
	for _, a := range kept(d.pending, keep, tear) {
		d.lasting.do(a)
	}
	d.seen = d.lasting.clone()
	for _, a := range d.pending {
		d.settle(a.name)
	}
	d.pending = nil
	return api.OK
}

// Clone is another disk with all of the same.
func (d *Disk) Clone() *Disk {
	if d.unmade() {
		return nil
	}
	twin := *d
	twin.lasting = d.lasting.clone()
	twin.seen = d.seen.clone()
	twin.peaks = maps.Clone(d.peaks)
	twin.pending = nil
	for _, a := range d.pending {
		twin.pending = append(twin.pending, a.clone())
	}
	return &twin
}

// named is the first error that a call with this name has, whether there is a file or not.
func (d *Disk) named(name string) api.Errno {
	if d.unmade() {
		return api.ErrNil
	}
	if !isName(name) {
		return api.ErrName
	}
	return api.OK
}

// there is the first error that a call on a file that must be seen has.
func (d *Disk) there(name string) api.Errno {
	if e := d.named(name); e != api.OK {
		return e
	}
	if _, ok := d.seen[name]; !ok {
		return api.ErrFile
	}
	return api.OK
}

// hasRoom tells whether n more bytes may be written to a file.
func (d *Disk) hasRoom(name string, n int) bool {
	b, ok := d.seen[name]
	if !ok && len(d.seen) >= api.MaxFiles {
		return false
	}
	peak := d.peaks[name]
	return d.used-peak+max(peak, len(b)+n) <= d.room
}

// perform does a new act, of which nothing is kept that the caller owns.
func (d *Disk) perform(a act) {
	a = a.clone()
	d.seen.do(a)
	d.pending = append(d.pending, a)
	d.count(a.name, max(d.peaks[a.name], len(d.seen[a.name])))
}

// settle counts a file of which nothing is pending any more.
func (d *Disk) settle(name string) {
	b, ok := d.seen[name]
	d.count(name, len(b))
	if !ok {
		delete(d.peaks, name)
	}
}

// count makes peak what Used counts of a name.
func (d *Disk) count(name string, peak int) {
	d.used += peak - d.peaks[name]
	d.peaks[name] = peak
}

const maxFileName = 24

// isName tells whether a file may have the name.
func isName(name string) bool {
	if len(name) < 1 || len(name) > maxFileName {
		return false
	}
	for i := range len(name) {
		if !isNameByte(name[i]) {
			return false
		}
	}
	return true
}

func isNameByte(c byte) bool {
	return 'a' <= c && c <= 'z' || '0' <= c && c <= '9' || c == '.'
}
