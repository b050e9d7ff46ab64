package httpd

import (
	"slices"
	"strings"

	"blotter/api"
)

const maxToken = 64

// Keeps tells whether the connection is kept behind a request.
func Keeps(r api.Request) bool {
	return !slices.ContainsFunc(r.Headers, func(h api.Header) bool {
		return small(h.Name) == "connection" && small(h.Value) == "close"
	})
}

// Find is a header's value.
func Find(l []api.Header, name string) (string, bool) {
	name = small(name)
	for _, h := range l {
		if small(h.Name) == name {
			return h.Value, true
		}
	}
	return "", false
}

// valuesOf is the values of all headers of just that name.
func valuesOf(headers []api.Header, name string) []string {
	var values []string
	for _, h := range headers {
		if h.Name == name {
			values = append(values, h.Value)
		}
	}
	return values
}

// appendHeader writes a header's line.
func appendHeader(b []byte, h api.Header) []byte {
	return append(b, h.Name+": "+h.Value+lineEnd...)
}

func isToken(s string) bool { return 0 < len(s) && len(s) <= maxToken && all(s, isTokenByte) }

func isTokenByte(c byte) bool {
	return 'a' <= c && c <= 'z' || isCapital(c) || isDigit(c) || strings.IndexByte("!#$%&'*+-.^_`|~", c) >= 0
}

// isValue tells whether a text may be a header's value.
func isValue(s string) bool {
	return all(s, func(c byte) bool { return isSeen(c) || isBlank(c) }) &&
		(s == "" || !isBlank(s[0]) && !isBlank(s[len(s)-1]))
}

// all tells whether each byte of a text is of a kind.
func all(s string, kind func(c byte) bool) bool {
	for i := range len(s) {
		if !kind(s[i]) {
			return false
		}
	}
	return true
}

func isCapital(c byte) bool { return 'A' <= c && c <= 'Z' }

func isDigit(c byte) bool { return '0' <= c && c <= '9' }

func isSeen(c byte) bool { return 33 <= c && c <= 126 }

func isBlank(c byte) bool { return c == ' ' || c == '\t' }

// small is a text with small letters for its capitals. The library's way would change other characters too.
func small(s string) string {
	b := []byte(s)
	for i, c := range b {
		if isCapital(c) {
			b[i] = c - 'A' + 'a'
		}
	}
	return string(b)
}
