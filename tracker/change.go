package tracker

import (
	"blotter/api"
	"blotter/entry"
)

// changes is what a mutation that can be writes, or why it does not fit this state.
func (s state) changes(by string, m api.Mutation) ([]api.Op, error) {
	issue, there := s.issue(m.Issue)
	if m.Kind != api.KCreate && !there {
		return nil, fault(atIssue, api.ErrMissing)
	}
	switch m.Kind {
	case api.KCreate:
		if there {
			return nil, fault(atIssue, api.ErrThere)
		}
		fallthrough
	case api.KTitle, api.KStatus, api.KAssign:
		return []api.Op{written(issueKey(m.Issue), exchanged(issue, m).Print())}, nil
	case api.KDelete:
		return s.withoutIssue(m.Issue), nil
	}
	if issue.Status == entry.Closed {
		return nil, fault(atIssue, api.ErrClosed)
	}
	return s.partChanges(by, m)
}

// exchanged is an issue with what a mutation wants of it.
func exchanged(x entry.Issue, m api.Mutation) entry.Issue {
	switch m.Kind {
	case api.KCreate:
		x.Status = entry.Open
		fallthrough
	case api.KTitle:
		x.Title = m.Text
	case api.KStatus:
		x.Status = m.Text
	case api.KAssign:
		x.Owner = m.Name
	}
	return x
}

// withoutIssue takes away all that lies under an issue's keys, whatever it is.
func (s state) withoutIssue(id string) []api.Op {
	keys := s.keysWith(entry.Key{Kind: entry.AComment, Issue: id}.Head())
	keys = append(keys, issueKey(id).Text())
	keys = append(keys, s.keysWith(entry.Key{Kind: entry.ALabel, Issue: id}.Head())...)
	ops := make([]api.Op, len(keys))
	for i, key := range keys {
		ops[i] = api.Op{Key: key, Gone: true}
	}
	return ops
}

// partChanges is what a mutation of a comment or a label of an open issue writes.
func (s state) partChanges(by string, m api.Mutation) ([]api.Op, error) {
	key := partKey(m)
	if err := s.partFault(by, m.Kind, key); err != nil {
		return nil, err
	}
	switch m.Kind {
	case api.KUncomment, api.KUnlabel:
		return []api.Op{{Key: key.Text(), Gone: true}}, nil
	case api.KLabel:
		return []api.Op{written(key, entry.Marked)}, nil
	}
	return []api.Op{written(key, entry.Comment{By: by, Text: m.Text}.Print())}, nil
}

// partKey is where the comment or the label lies that a mutation is about.
func partKey(m api.Mutation) entry.Key {
	key := entry.Key{Kind: entry.AComment, Issue: m.Issue, Name: m.Name}
	switch m.Kind {
	case api.KLabel, api.KUnlabel:
		key.Kind = entry.ALabel
	}
	return key
}

func written(key entry.Key, value string) api.Op {
	return api.Op{Key: key.Text(), Value: value}
}

// partFault is why a kind of mutation can't be done to a comment or a label.
func (s state) partFault(by string, kind int, key entry.Key) error {
	switch kind {
	case api.KComment, api.KLabel:
		if s.hasPart(key) {
			return fault(atName, api.ErrThere)
		}
		if s.isFull(key) {
			return fault(atIssue, api.ErrFull)
		}
	case api.KEdit, api.KUncomment:
		if x, there := s.comment(key); there && x.By != by {
			return fault(atName, api.ErrOther)
		}
		fallthrough
	case api.KUnlabel:
		if !s.hasPart(key) {
			return fault(atName, api.ErrMissing)
		}
	}
	return nil
}
