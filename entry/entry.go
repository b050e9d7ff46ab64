// Package entry is how issues, comments and labels lie in entries: their keys, and their values, each in one form.
package entry

import (
	"strings"

	"blotter/api"
	"blotter/authtok"
	"blotter/jsonx"
	"blotter/object"
	"blotter/wire"
)

// The states of an issue, and the one value of a label that mutations write.
const (
	Open   = "open"
	Closed = "closed"
	Marked = "1"
)

// Kinds of what lies under a key.
const (
	None = iota
	AnIssue
	AComment
	ALabel
)

// Key is what a key says: a kind, the issue's ID and, of a comment or a label, its name.
type Key struct {
	Kind  int
	Issue string
	Name  string
}

const (
	issueLetter   = "i"
	commentLetter = "c"
	labelLetter   = "l"
	slash         = "/"
)

// Text is the key as entries have it.
func (k Key) Text() string { return k.Head() + k.Name }

// Head is what the keys of all comments, of all labels of an issue begin with; of the issue itself it is the whole key.
func (k Key) Head() string {
	switch k.Kind {
	case AnIssue:
		return issueLetter + slash + k.Issue
	case AComment:
		return commentLetter + slash + k.Issue + slash
	case ALabel:
		return labelLetter + slash + k.Issue + slash
	}
	return ""
}

// ReadKey is what a key says; one of something else, or with a part that is no name, says nothing.
func ReadKey(s string) Key {
	letter, rest, _ := strings.Cut(s, slash)
	if letter == issueLetter {
		return named(Key{Kind: AnIssue, Issue: rest}, rest)
	}
	id, name, _ := strings.Cut(rest, slash)
	switch letter {
	case commentLetter:
		return named(Key{Kind: AComment, Issue: id, Name: name}, id, name)
	case labelLetter:
		return named(Key{Kind: ALabel, Issue: id, Name: name}, id, name)
	}
	return Key{}
}

// named is a key all of whose parts are names, or one that says nothing.
func named(k Key, parts ...string) Key {
	for _, part := range parts {
		if !authtok.Name(part) {
			return Key{}
		}
	}
	return k
}

// IsNameOrNone tells whether a text is a name, or the empty one, which asks for nobody.
func IsNameOrNone(s string) bool { return s == "" || authtok.Name(s) }

// IsStatus tells whether an issue may have that status.
func IsStatus(s string) bool { return s == Open || s == Closed }

// IsWords tells whether a text may be a title, or a comment's.
func IsWords(s string) bool {
	return len(s) > 0 && len(s) <= api.MaxText && wire.Chars([]byte(s)) < 0
}

// Issue is what an issue's value says.
type Issue struct{ Owner, Status, Title string }

const (
	ownerName  = "owner"
	statusName = "status"
	titleName  = "title"
	byName     = "by"
	textName   = "text"
)

// Print is an issue's value.
func (x Issue) Print() string {
	return printed(object.Text(ownerName, x.Owner), object.Text(statusName, x.Status), object.Text(titleName, x.Title))
}

// ReadIssue is the issue that a value is, if it is one.
func ReadIssue(value string) (Issue, bool) {
	v, _, _ := jsonx.Parse(value)
	x := Issue{Owner: object.TextIn(v, ownerName), Status: object.TextIn(v, statusName), Title: object.TextIn(v, titleName)}
	may := IsNameOrNone(x.Owner) && IsStatus(x.Status) && IsWords(x.Title)
	// Only the one form in which it is printed is an issue's, so that is held against the value.
	if !may || x.Print() != value {
		return Issue{}, false
	}
	return x, true
}

// Comment is what a comment's value says.
type Comment struct{ By, Text string }

// Print is a comment's value.
func (x Comment) Print() string {
	return printed(object.Text(byName, x.By), object.Text(textName, x.Text))
}

// ReadComment is the comment that a value is, if it is one.
func ReadComment(value string) (Comment, bool) {
	v, _, _ := jsonx.Parse(value)
	x := Comment{By: object.TextIn(v, byName), Text: object.TextIn(v, textName)}
	may := authtok.Name(x.By) && IsWords(x.Text)
	if !may || x.Print() != value {
		return Comment{}, false
	}
	return x, true
}

// printed is the one print of an object of these members.
func printed(members ...object.Member) string {
	s, _ := jsonx.Print(object.Of(members...))
	return s
}
