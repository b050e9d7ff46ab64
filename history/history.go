// Package history is the log, or a beginning of it, with what it leads to: the last ID of each client, and the state.
package history

import (
	"maps"
	"slices"
	"strings"

	"blotter/api"
	"blotter/tracker"
)

// History is logged mutations, one behind the other, of each client with the IDs 1, 2, 3 ..
type History struct {
	log    []api.Logged
	last   map[string]int // by clients
	issues issues
}

// New is one without mutations.
func New() *History {
	return &History{last: map[string]int{}, issues: issues{}}
}

// Top is how many mutations there are.
func (h *History) Top() int { return len(h.log) }

// Last is the ID of a client's last one; 0: it has none.
func (h *History) Last(client string) int { return h.last[client] }

// LastAmong is the ID of a client's last one among the first so many.
func (h *History) LastAmong(first int, client string) int {
	for _, x := range slices.Backward(h.log[:first]) {
		if x.Client == client {
			return x.ID
		}
	}
	return 0
}

// Log is the mutations behind the first from, at most so many.
func (h *History) Log(from, most int) []api.Logged {
	if from < 0 || most < 1 || from > len(h.log) {
		return nil
	}
	behind := h.log[from:]
	return slices.Clone(behind[:min(most, len(behind))])
}

// State is what the mutations lead to, and behind them those that wait, which it does not take; by rising keys.
func (h *History) State(waiting ...api.Logged) []api.Entry {
	seen := maps.Clone(h.issues)
	for _, x := range waiting {
		seen.do(x)
	}
	return seen.entries()
}

// GoesOn tells whether a mutation may come next, by its ID.
func (h *History) GoesOn(x api.Logged) bool { return x.ID == h.last[x.Client]+1 }

// Changes is what a mutation would write to the state behind those that wait, or why it would do nothing.
func (h *History) Changes(x api.Logged, waiting ...api.Logged) ([]api.Op, error) {
	own := issues{x.M.Issue: h.issues[x.M.Issue]}
	for _, w := range waiting {
		if w.M.Issue == x.M.Issue {
			own.do(w)
		}
	}
	return tracker.Changes(own[x.M.Issue], x.Client, x.M)
}

// Take puts a mutation that goes on behind the others, and does it.
func (h *History) Take(x api.Logged) {
	x = OwnTexts(x)
	h.log = append(h.log, x)
	h.last[x.Client] = x.ID
	h.issues.do(x)
}

// OwnTexts is the same mutation in texts that nobody else keeps.
func OwnTexts(x api.Logged) api.Logged {
	x.Client = strings.Clone(x.Client)
	x.M.Issue = strings.Clone(x.M.Issue)
	x.M.Name = strings.Clone(x.M.Name)
	x.M.Text = strings.Clone(x.M.Text)
	return x
}
