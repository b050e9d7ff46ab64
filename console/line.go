package console

import (
	"strconv"
	"strings"

	"blotter/api"
	"blotter/authtok"
	"blotter/jsonx"
	"blotter/wire"
)

// Kinds of what stands behind a word.
const (
	number  = 'n'
	name    = 'w'
	bits    = 'b'
	letters = 'l'
	quoted  = 't'
)

const (
	mostDigits = 9
	mostBits   = 64
	nothing    = "-" // the empty text, no bits
)

// line is a word and what stands behind it: of each kind those that there are, in their order.
type line struct {
	word    string
	numbers []int
	texts   []string
	keep    []bool
	bytes   []byte
}

// read is what a line says; false: it is none.
func read(s string) (line, bool) {
	if len(s) > api.MaxLine {
		return line{}, false
	}
	parts, ok := split(s)
	if !ok {
		return line{}, false
	}
	kinds, ok := behind(parts[0])
	if !ok || len(parts)-1 != len(kinds) {
		return line{}, false
	}
	l := line{word: parts[0]}
	for i, part := range parts[1:] {
		if !l.take(kinds[i], part) {
			return line{}, false
		}
	}
	return l, true
}

// behind is the kinds of what stands behind a word; false: there is no such word.
func behind(word string) (string, bool) {
	switch word {
	case "dial", "rotate", "top", "log":
		return "", true
	case "act", "watch", "start", "compact", "cut", "pass", "round":
		return "n", true
	case "world":
		return "nn", true
	case "carry":
		return "nnn", true
	case "crash":
		return "nbn", true
	case "forge":
		return "nl", true
	case "delete", "show":
		return "nw", true
	case "create", "title":
		return "nwt", true
	case "status", "assign", "uncomment", "label", "unlabel":
		return "nww", true
	case "comment", "edit":
		return "nwwt", true
	case "list":
		return "nwwwwnt", true
	}
	return "", false
}

// split is a line's parts, of which none is empty; false: they are not parted by one blank each.
func split(s string) ([]string, bool) {
	var parts []string
	for {
		n := partSize(s)
		if n == 0 {
			return nil, false
		}
		parts = append(parts, s[:n])
		if n == len(s) {
			return parts, true
		}
		if s[n] != ' ' {
			return nil, false
		}
		s = s[n+1:]
	}
}

// partSize is how many bytes the part has with which s begins; 0: none, or one in quotes that does not end.
func partSize(s string) int {
	if strings.HasPrefix(s, `"`) {
		return quotedSize(s)
	}
	if n := strings.IndexByte(s, ' '); n >= 0 {
		return n
	}
	return len(s)
}

func quotedSize(s string) int {
	for i := 1; i < len(s); i++ {
		switch s[i] {
		case '\\':
			i++
		case '"':
			return i + 1
		}
	}
	return 0
}

// take reads a part as one of a kind; false: it is none.
func (l *line) take(kind byte, part string) bool {
	switch kind {
	case number:
		return l.takeNumber(part)
	case name:
		return l.takeName(part)
	case bits:
		return l.takeBits(part)
	case letters:
		b, ok := wire.Unspell(part)
		l.bytes = b
		return ok
	case quoted:
		v, _, e := jsonx.Parse(part)
		l.texts = append(l.texts, v.Text)
		return e == api.OK && v.Kind == api.JText
	}
	return false
}

func (l *line) takeNumber(part string) bool {
	if len(part) > mostDigits || len(part) > 1 && part[0] == '0' || !madeOf(part, "0123456789") {
		return false
	}
	n, err := strconv.Atoi(part)
	l.numbers = append(l.numbers, n)
	return err == nil
}

func (l *line) takeName(part string) bool {
	if part == nothing {
		l.texts = append(l.texts, "")
		return true
	}
	l.texts = append(l.texts, part)
	return authtok.Name(part)
}

func (l *line) takeBits(part string) bool {
	if part == nothing {
		return true
	}
	for _, c := range []byte(part) {
		l.keep = append(l.keep, c == '1')
	}
	return len(part) <= mostBits && madeOf(part, "01")
}

// madeOf tells whether a part has no bytes but those of a text.
func madeOf(part, of string) bool { return strings.Trim(part, of) == "" }
