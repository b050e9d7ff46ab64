package board

import (
	"slices"
	"strings"

	"blotter/api"
	"blotter/entry"
)

// check tells whether a filter may be.
func check(f api.Filter) api.Errno {
	switch {
	case f.Status != "" && !entry.IsStatus(f.Status):
		return api.ErrArg
	case !entry.IsNameOrNone(f.Owner) || !entry.IsNameOrNone(f.Label):
		return api.ErrName
	case len(f.Word) > api.MaxText:
		return api.ErrLong
	case !entry.IsNameOrNone(f.After):
		return api.ErrName
	case f.Most < 1 || f.Most > api.MaxPage:
		return api.ErrArg
	}
	return api.OK
}

// asksFor tells whether an issue is what a filter asks for, on this page or a later one.
func asksFor(f api.Filter, issue api.Issue) bool {
	return (f.Status == "" || f.Status == issue.Status) &&
		(f.Owner == "" || f.Owner == issue.Owner) &&
		(f.Label == "" || slices.Contains(issue.Labels, f.Label)) &&
		strings.Contains(issue.Title, f.Word) &&
		issue.ID > f.After
}
