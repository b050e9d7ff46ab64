package board

import (
	"blotter/api"
	"blotter/entry"
	"blotter/tracker"
)

// issues is all issues that are there, by rising IDs.
func issues(l []api.Entry) []api.Issue {
	state := tracker.Apply(l, nil)
	var out []api.Issue
	places := map[string]int{}
	for _, e := range state {
		if issue, there := readIssue(e); there {
			places[issue.ID] = len(out)
			out = append(out, issue)
		}
	}
	// Comments stand ahead of their issues, so they wait till all of these are known.
	for _, e := range state {
		key := entry.ReadKey(e.Key)
		if at, there := places[key.Issue]; there {
			addPart(&out[at], key, e.Value)
		}
	}
	return out
}

// readIssue is the issue that an entry is, if it is one, without its comments and labels.
func readIssue(e api.Entry) (api.Issue, bool) {
	key := entry.ReadKey(e.Key)
	if key.Kind != entry.AnIssue {
		return api.Issue{}, false
	}
	x, there := entry.ReadIssue(e.Value)
	return api.Issue{ID: key.Issue, Title: x.Title, Status: x.Status, Owner: x.Owner}, there
}

// addPart adds a comment or a label to its issue.
func addPart(issue *api.Issue, key entry.Key, value string) {
	switch key.Kind {
	case entry.AComment:
		if x, there := entry.ReadComment(value); there {
			issue.Comments = append(issue.Comments, api.Comment{ID: key.Name, By: x.By, Text: x.Text})
		}
	case entry.ALabel:
		issue.Labels = append(issue.Labels, key.Name)
	}
}
