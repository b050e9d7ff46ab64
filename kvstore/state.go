package kvstore

import (
	"cmp"
	"slices"
	"strings"

	"blotter/api"
)

const maxVersion = 1 << 40

// state is what keys have at a version, those that are gone too.
type state struct {
	items   map[string]api.Item
	version int
}

// stateOf is the state that has just these items.
func stateOf(version int, items []api.Item) state {
	s := state{items: make(map[string]api.Item, len(items))}
	s.write(version, items)
	return s
}

// write puts items over what their keys had.
func (s *state) write(version int, items []api.Item) {
	for _, item := range items {
		s.items[item.Key] = item
	}
	s.version = version
}

// chosen is the items that are asked for, by rising keys.
func (s *state) chosen(asked func(api.Item) bool) []api.Item {
	var out []api.Item
	for _, item := range s.items {
		if asked(item) {
			out = append(out, item)
		}
	}
	slices.SortFunc(out, func(a, b api.Item) int { return cmp.Compare(a.Key, b.Key) })
	return out
}

// checkOps is the first error of what a commit is asked to write.
func checkOps(ops []api.Op) api.Errno {
	if len(ops) < 1 || len(ops) > api.MaxOps {
		return api.ErrArg
	}
	ahead := make(map[string]int, len(ops))
	for i, op := range ops {
		if e := checkOp(op); e != api.OK {
			return e
		}
		if _, twice := ahead[op.Key]; twice {
			return api.ErrOps
		}
		ahead[op.Key] = i
	}
	return api.OK
}

// checkOp is the first error that an op has by itself.
func checkOp(op api.Op) api.Errno {
	switch {
	case len(op.Key) < 1 || len(op.Key) > api.MaxKey:
		return api.ErrName
	case op.Gone && op.Value != "":
		return api.ErrArg
	case len(op.Value) > api.MaxValue:
		return api.ErrLong
	}
	return api.OK
}

// written is the items that ops make at a version, in texts of their own.
func written(ops []api.Op, version int) []api.Item {
	items := make([]api.Item, len(ops))
	for i, op := range ops {
		items[i] = api.Item{Key: strings.Clone(op.Key), Gone: op.Gone, Value: strings.Clone(op.Value), At: version}
	}
	return items
}
