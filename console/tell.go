package console

import (
	"strconv"
	"strings"

	"blotter/api"
	"blotter/jsonx"
)

func tellList(issues []api.Issue, more bool) string {
	parts := []string{"list"}
	for _, issue := range issues {
		parts = append(parts, issue.ID)
	}
	if more {
		parts = append(parts, "..")
	}
	return strings.Join(parts, " ")
}

func tellIssue(issue api.Issue) string {
	parts := []string{"issue", issue.ID, issue.Status, inQuotes(issue.Owner), inQuotes(issue.Title)}
	for _, label := range issue.Labels {
		parts = append(parts, "#"+label)
	}
	for _, c := range issue.Comments {
		parts = append(parts, c.ID, c.By, inQuotes(c.Text))
	}
	return strings.Join(parts, " ")
}

// inQuotes is a text as JSON has it, so that it stands in one line.
func inQuotes(text string) string {
	// Nothing that an issue has is too long, or of other bytes than characters.
	s, _ := jsonx.Print(api.Json{Kind: api.JText, Text: text})
	return s
}

func tellLog(log []api.Logged) string {
	parts := []string{"log", strconv.Itoa(len(log))}
	for _, l := range log {
		parts = append(parts, l.Client+"."+strconv.Itoa(l.ID))
	}
	return strings.Join(parts, " ")
}
