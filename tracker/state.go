package tracker

import (
	"slices"
	"strings"

	"blotter/api"
	"blotter/entry"
)

// state is entries by their keys.
type state map[string]api.Entry

// stateOf is the state of any entries: a later one of a key stands for those ahead of it.
func stateOf(l []api.Entry) state {
	s := state{}
	for _, e := range l {
		s[e.Key] = e
	}
	return s
}

func (s state) write(op api.Op) {
	if op.Gone {
		delete(s, op.Key)
		return
	}
	s[op.Key] = api.Entry{Key: op.Key, Value: op.Value}
}

// entries is the state by rising keys.
func (s state) entries() []api.Entry {
	out := make([]api.Entry, 0, len(s))
	for _, e := range s {
		out = append(out, e)
	}
	slices.SortFunc(out, func(a, b api.Entry) int { return strings.Compare(a.Key, b.Key) })
	return out
}

// keysWith is the keys that begin with a head, rising.
func (s state) keysWith(head string) []string {
	var out []string
	for key := range s {
		if strings.HasPrefix(key, head) {
			out = append(out, key)
		}
	}
	slices.Sort(out)
	return out
}

// issue is one, if it is there.
func (s state) issue(id string) (entry.Issue, bool) {
	return entry.ReadIssue(s[issueKey(id).Text()].Value)
}

// comment is one, if it is there.
func (s state) comment(key entry.Key) (entry.Comment, bool) {
	return entry.ReadComment(s[key.Text()].Value)
}

// hasPart tells whether a comment or a label is there.
func (s state) hasPart(key entry.Key) bool {
	_, there := s[key.Text()]
	if key.Kind == entry.AComment {
		_, there = s.comment(key)
	}
	return there
}

// isFull tells whether an issue has as many comments, or labels, as it may.
func (s state) isFull(key entry.Key) bool {
	return len(s.keysWith(key.Head())) >= mostParts(key.Kind)
}

// mostParts is how many of a kind an issue may have.
func mostParts(kind int) int {
	if kind == entry.AComment {
		return api.MaxComments
	}
	return api.MaxLabels
}

func issueKey(id string) entry.Key { return entry.Key{Kind: entry.AnIssue, Issue: id} }
