package tracker

import (
	"blotter/api"
	"blotter/entry"
)

// explains tells whether an entry is one that mutations may have written to this state.
func (s state) explains(e api.Entry) bool {
	key := entry.ReadKey(e.Key)
	_, there := s.issue(key.Issue)
	switch key.Kind {
	case entry.AnIssue:
		return there
	case entry.AComment:
		return there && s.hasPart(key)
	case entry.ALabel:
		return there && e.Value == entry.Marked
	}
	return false
}

// hasCrowd tells whether an issue has more comments or labels than it may, of entries of issues, comments and labels.
func hasCrowd(l []api.Entry) bool {
	counts := map[string]int{}
	for _, e := range l {
		key := entry.ReadKey(e.Key)
		counts[key.Head()]++
		if counts[key.Head()] > mostParts(key.Kind) {
			return true
		}
	}
	return false
}
