package seglog

import (
	"math"
	"strconv"
	"strings"

	"blotter/api"
	"blotter/disk"
	"blotter/noughts"
	"blotter/wire"
)

const (
	firstNumber = 1
	endNumber   = math.MaxInt64 // no record has it: there would be no next one
)

// segment is one file's records, the first of which has the number first.
type segment struct {
	first   int
	records [][]byte
	size    int // how many bytes they have, as frames
}

// readSegment is what can be read of a file's bytes: its size tells up to where.
func readSegment(first int, b []byte) segment {
	s := segment{first: first}
	for s.next() != endNumber {
		payload, size, e := wire.Unframe(b[s.size:])
		if e != api.OK {
			break
		}
		c := wire.From(payload)
		if n, e := c.Number(); e != api.OK || n != s.next() {
			break
		}
		s.put(c.Rest(), size)
	}
	return s
}

// next is the number behind the last record's.
func (s *segment) next() int { return s.first + len(s.records) }

// put adds a record, whose frame has so many bytes.
func (s *segment) put(own []byte, size int) {
	s.records = append(s.records, own)
	s.size += size
}

// from is the records from a number on.
func (s *segment) from(n int) [][]byte {
	ahead := max(n, s.first) - s.first
	return s.records[min(ahead, len(s.records)):]
}

const (
	namePrefix = "seg."
	nameDigits = 19
)

// nameOf is the name of the file of the segment that begins with a number.
func nameOf(first int) string { return namePrefix + noughts.Ahead(first, nameDigits) }

// numberOf is the number with which the segment of that file's name begins, if it is one's.
func numberOf(name string) (int, bool) {
	n, err := strconv.Atoi(strings.TrimPrefix(name, namePrefix))
	// Other forms of the number, or no prefix, would not come back.
	if err != nil || n < firstNumber || nameOf(n) != name {
		return 0, false
	}
	return n, true
}

// segmentNumbers is the numbers with which a disk's segments begin, rising.
func segmentNumbers(d *disk.Disk) []int {
	var out []int
	// All numbers have as many digits: rising names are rising numbers.
	for _, name := range d.List() {
		if n, ok := numberOf(name); ok {
			out = append(out, n)
		}
	}
	return out
}
