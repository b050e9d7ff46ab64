package kvstore

import (
	"blotter/api"
	"blotter/wire"
)

// Kinds of records: the first byte of one.
const (
	commitKind = iota + 1
	itemKind
	endKind
	beginningKind
)

// What stands behind a key: whether it is gone, or a value follows.
const (
	valueMark = iota
	goneMark
)

// commitRecord is the record of a commit.
func commitRecord(version int, items []api.Item) []byte {
	out := wire.Number([]byte{commitKind}, version)
	out = wire.Number(out, len(items))
	for _, item := range items {
		out = append(out, keyForm(item)...)
	}
	return out
}

// snapshotRecords is the records of a snapshot, from its beginning to its end.
func snapshotRecords(s state) [][]byte {
	out := [][]byte{{beginningKind}}
	for _, item := range s.chosen(func(api.Item) bool { return true }) {
		rec := wire.Number([]byte{itemKind}, item.At)
		out = append(out, append(rec, keyForm(item)...))
	}
	return append(out, wire.Number([]byte{endKind}, s.version))
}

// keyForm is a key and what it has, as both kinds of records tell it.
func keyForm(item api.Item) []byte {
	out := wire.Text(nil, item.Key)
	if item.Gone {
		return append(out, goneMark)
	}
	return wire.Text(append(out, valueMark), item.Value)
}

// kindOf is a record's kind; 0: it has none.
func kindOf(rec []byte) int {
	if len(rec) == 0 {
		return 0
	}
	return int(rec[0])
}

// reader reads the parts of a record, and keeps in mind whether one of them can't be.
type reader struct {
	cursor *wire.Cursor
	bad    bool
}

// ask asks that something holds of the record.
func (r *reader) ask(holds bool) { r.bad = r.bad || !holds }

// number is the next number, from least to most.
func (r *reader) number(least, most int) int {
	n, e := r.cursor.Number()
	r.ask(e == api.OK && least <= n && n <= most)
	return n
}

// text is the next text, of least to most bytes.
func (r *reader) text(least, most int) string {
	s, e := r.cursor.Text(most)
	r.ask(e == api.OK && len(s) >= least)
	return s
}

// item is the next key and what it has, written at a version.
func (r *reader) item(at int) api.Item {
	item := api.Item{Key: r.text(1, api.MaxKey), At: at}
	switch mark, e := r.cursor.Byte(); {
	case e == api.OK && mark == goneMark:
		item.Gone = true
	case e == api.OK && mark == valueMark:
		item.Value = r.text(0, api.MaxValue)
	default:
		r.bad = true
	}
	return item
}

// items is as many keys, and what they have, as are told ahead of them.
func (r *reader) items(at int) []api.Item {
	count := r.number(1, api.MaxOps)
	var out []api.Item
	for i := 0; i < count && !r.bad; i++ {
		out = append(out, r.item(at))
	}
	return out
}

// good tells whether all parts could be, and nothing is behind them.
func (r *reader) good() bool { return !r.bad && r.cursor.End() == api.OK }
