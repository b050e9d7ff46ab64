package history

import (
	"slices"
	"strings"

	"blotter/api"
	"blotter/tracker"
)

// issues is a state's entries, by issues: a mutation looks at those of its own one alone, and changes no others.
type issues map[string][]api.Entry

// do does a mutation; one that does not fit changes nothing.
func (s issues) do(x api.Logged) {
	own, _ := tracker.Do(s[x.M.Issue], x.Client, x.M)
	if len(own) == 0 {
		delete(s, x.M.Issue)
		return
	}
	s[x.M.Issue] = own
}

// entries is all of them, by rising keys.
func (s issues) entries() []api.Entry {
	var out []api.Entry
	for _, own := range s {
		out = append(out, own...)
	}
	slices.SortFunc(out, func(a, b api.Entry) int { return strings.Compare(a.Key, b.Key) })
	return out
}
