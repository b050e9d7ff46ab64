package kvstore

import (
	"blotter/api"
	"blotter/wire"
)

// recall is what records say, the first of which has the number first; false, if they can't be.
func recall(first int, records [][]byte) (state, bool) {
	start := lastSnapshot(records)
	if start < 0 {
		// Commits were trimmed away, and nothing stands for them.
		if first != 1 {
			return state{}, false
		}
		start = 0
	}
	h := history{state: stateOf(0, nil)}
	for _, rec := range records[start:] {
		if !h.take(rec) {
			return state{}, false
		}
	}
	return h.state, true
}

// lastSnapshot is the index of the beginning of the last snapshot that has an end; -1: there is none.
// What stands between the two is not looked at: if it is not as it must be, that end can't be, and there is no store, wherever one begins to read.
func lastSnapshot(records [][]byte) int {
	begun, last := -1, -1
	for i, rec := range records {
		switch kindOf(rec) {
		case beginningKind:
			begun = i
		case endKind:
			last = begun
		}
	}
	return last
}

// history is what the records so far lead to.
type history struct {
	state state
	begun bool       // a snapshot was begun, and nothing but its items stands behind
	draft []api.Item // these
}

// take does the next record; false, if it can't be.
func (h *history) take(rec []byte) bool {
	r := &reader{cursor: wire.From(rec)}
	r.cursor.Byte()
	switch kindOf(rec) {
	case commitKind:
		h.commit(r)
	case beginningKind:
		h.begun, h.draft = true, nil
	case itemKind:
		h.item(r)
	case endKind:
		h.end(r)
	default:
		return false
	}
	return r.good()
}

// commit does a commit.
func (h *history) commit(r *reader) {
	h.begun, h.draft = false, nil
	version := r.number(1, maxVersion)
	r.ask(version == h.state.version+1)
	for _, item := range r.items(version) {
		// Only this commit's own keys have its version.
		r.ask(h.state.items[item.Key].At != version)
		h.state.items[item.Key] = item
	}
	h.state.version = version
}

// item does an item of a snapshot.
func (h *history) item(r *reader) {
	item := r.item(r.number(1, maxVersion))
	r.ask(h.begun)
	if n := len(h.draft); n > 0 {
		r.ask(item.Key > h.draft[n-1].Key)
	}
	h.draft = append(h.draft, item)
}

// end does the end of a snapshot, which stands for all that was ahead of it.
func (h *history) end(r *reader) {
	version := r.number(0, maxVersion)
	r.ask(h.begun)
	for _, item := range h.draft {
		r.ask(item.At <= version)
	}
	h.state = stateOf(version, h.draft)
	h.begun, h.draft = false, nil
}
