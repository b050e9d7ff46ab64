// Package history is the log, or a beginning of it, with what it leads to: the last ID of each client, and the state.
package history

import (
	"slices"
	"strings"

	"blotter/api"
	"blotter/tracker"
)

// History is logged mutations, one behind the other, of each client with the IDs 1, 2, 3 ..
type History struct {
	log  []api.Logged
	last map[string]int // by clients
	// The state's entries, by issues: a mutation looks at those of its own one alone, and changes no others.
	issues map[string][]api.Entry
}

// New is one without mutations.
func New() *History {
	return &History{last: map[string]int{}, issues: map[string][]api.Entry{}}
}

// Top is how many mutations there are.
func (h *History) Top() int { return len(h.log) }

// Last is the ID of a client's last one; 0: it has none.
func (h *History) Last(client string) int { return h.last[client] }

// LastAmong is the ID of a client's last one among the first so many.
func (h *History) LastAmong(first int, client string) int {
	for _, x := range slices.Backward(h.log[:first]) {
		if x.Client == client {
			return x.ID
		}
	}
	return 0
}

// Log is the mutations behind the first from, at most so many.
func (h *History) Log(from, most int) []api.Logged {
	if from < 0 || most < 1 || from > len(h.log) {
		return nil
	}
	behind := h.log[from:]
	return slices.Clone(behind[:min(most, len(behind))])
}

// State is what the mutations lead to, by rising keys.
func (h *History) State() []api.Entry {
	var out []api.Entry
	for _, own := range h.issues {
		out = append(out, own...)
	}
	slices.SortFunc(out, func(a, b api.Entry) int { return strings.Compare(a.Key, b.Key) })
	return out
}

// GoesOn tells whether a mutation may come next, by its ID.
func (h *History) GoesOn(x api.Logged) bool { return x.ID == h.last[x.Client]+1 }

// Changes is what a mutation would write to the state; one that does not fit there writes nothing.
func (h *History) Changes(x api.Logged) []api.Op {
	ops, _ := tracker.Changes(h.issues[x.M.Issue], x.Client, x.M)
	return ops
}

// Take puts a mutation that goes on behind the others, and does it.
func (h *History) Take(x api.Logged) {
	x = ownTexts(x)
	h.log = append(h.log, x)
	h.last[x.Client] = x.ID
	own := tracker.Apply(h.issues[x.M.Issue], h.Changes(x))
	if len(own) == 0 {
		delete(h.issues, x.M.Issue)
		return
	}
	h.issues[x.M.Issue] = own
}

// ownTexts is the same mutation in texts that nobody else keeps.
func ownTexts(x api.Logged) api.Logged {
	x.Client = strings.Clone(x.Client)
	x.M.Issue = strings.Clone(x.M.Issue)
	x.M.Name = strings.Clone(x.M.Name)
	x.M.Text = strings.Clone(x.M.Text)
	return x
}
