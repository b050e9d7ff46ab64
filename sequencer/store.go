package sequencer

import (
	"strconv"

	"blotter/api"
	"blotter/history"
	"blotter/kvstore"
	"blotter/msg"
	"blotter/noughts"
)

const (
	logHead   = "m/"
	lastHead  = "n/"
	stateHead = "d/"
	logDigits = 13
)

// logKey is where the mutation lies that is the v-th.
func logKey(v int) string { return logHead + noughts.Ahead(v, logDigits) }

// commitOf is what the store is to write for the mutation that comes next.
func commitOf(h *history.History, x api.Logged) []api.Op {
	text, _ := msg.Put(x)
	ops := []api.Op{
		{Key: logKey(h.Top() + 1), Value: text},
		{Key: lastHead + x.Client, Value: strconv.Itoa(x.ID)},
	}
	// One that does not fit writes nothing to the state, but is in the log.
	changes, _ := h.Changes(x)
	for _, op := range changes {
		op.Key = stateHead + op.Key
		ops = append(ops, op)
	}
	return ops
}

// recall is the mutations that a store has; false, if it is not just what their commits would have left.
func recall(store *kvstore.Store) (*history.History, bool) {
	h := history.New()
	left := map[string]api.Item{}
	for v := 1; v <= store.Version(); v++ {
		item, _ := store.Get(logKey(v))
		x, e := msg.Get(item.Value)
		if e != api.OK || !h.GoesOn(x) {
			return nil, false
		}
		for _, op := range commitOf(h, x) {
			write(left, op, v)
		}
		h.Take(x)
	}
	return h, isLeft(store.Scan("", ""), left)
}

// write does an op of a commit to the items that are not gone.
func write(items map[string]api.Item, op api.Op, version int) {
	if op.Gone {
		delete(items, op.Key)
		return
	}
	items[op.Key] = api.Item{Key: op.Key, Value: op.Value, At: version}
}

// isLeft tells whether items, each of another key, are just those that are left.
func isLeft(items []api.Item, left map[string]api.Item) bool {
	for _, item := range items {
		if left[item.Key] != item {
			return false
		}
	}
	return len(items) == len(left)
}
