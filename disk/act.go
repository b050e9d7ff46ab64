package disk

import (
	"bytes"
	"strings"
)

// kind is what an act does.
type kind int

const (
	write kind = iota
	cut
	drop
)

// act is one thing that is done to one file.
type act struct {
	kind  kind
	name  string
	at    int    // of a write its place, of a cut how many bytes it leaves
	bytes []byte // of a write
}

// clone is the same act in memory of its own.
func (a act) clone() act {
	a.name = strings.Clone(a.name)
	a.bytes = bytes.Clone(a.bytes)
	return a
}

// torn is a write without its last bytes; other acts can't be torn.
func (a act) torn(tear int) act {
	if a.kind == write {
		tear = min(max(tear, 0), len(a.bytes))
		a.bytes = a.bytes[:len(a.bytes)-tear]
	}
	return a
}

// kept is the acts that a crash keeps.
func kept(acts []act, keep []bool, tear int) []act {
	var out []act
	for i, a := range acts {
		if i < len(keep) && keep[i] {
			out = append(out, a)
		}
	}
	if n := len(out); n > 0 {
		out[n-1] = out[n-1].torn(tear)
	}
	return out
}

// files is bytes by names.
type files map[string][]byte

// do does an act, whether the files are those that it was meant for or not.
func (f files) do(a act) {
	switch a.kind {
	case write:
		f[a.name] = overwritten(f[a.name], a.at, a.bytes)
	case cut:
		if b := f[a.name]; len(b) > a.at {
			f[a.name] = b[:a.at]
		}
	case drop:
		delete(f, a.name)
	}
}

// overwritten is a file's bytes, which it may reuse, with more from a place on instead of what stood there.
func overwritten(own []byte, at int, more []byte) []byte {
	own = own[:min(at, len(own))]
	own = append(own, make([]byte, at-len(own))...)
	return append(own, more...)
}

// clone is the same files in memory of their own.
func (f files) clone() files {
	out := make(files, len(f))
	for name, b := range f {
		out[name] = bytes.Clone(b)
	}
	return out
}
