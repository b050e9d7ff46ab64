package httpd

import (
	"slices"
	"strings"

	"blotter/api"
	"blotter/header"
)

const maxToken = 64

// Keeps tells whether the connection is kept behind a request.
func Keeps(r api.Request) bool {
	return !slices.ContainsFunc(header.Values(r.Headers, "connection"), func(value string) bool {
		return header.Small(value) == "close"
	})
}

// Find is a header's value.
func Find(l []api.Header, name string) (string, bool) {
	values := header.Values(l, name)
	if len(values) == 0 {
		return "", false
	}
	return values[0], true
}

// appendHeader writes a header's line.
func appendHeader(b []byte, h api.Header) []byte {
	return append(b, h.Name+": "+h.Value+lineEnd...)
}

func isToken(s string) bool { return 0 < len(s) && len(s) <= maxToken && all(s, isTokenByte) }

func isTokenByte(c byte) bool {
	return 'a' <= c && c <= 'z' || isCapital(c) || isDigit(c) || strings.IndexByte("!#$%&'*+-.^_`|~", c) >= 0
}

// isValue tells whether a text may be a header's value.
func isValue(s string) bool {
	return all(s, func(c byte) bool { return isSeen(c) || isBlank(c) }) &&
		(s == "" || !isBlank(s[0]) && !isBlank(s[len(s)-1]))
}

// all tells whether each byte of a text is of a kind.
func all(s string, kind func(c byte) bool) bool {
	for i := range len(s) {
		if !kind(s[i]) {
			return false
		}
	}
	return true
}

func isCapital(c byte) bool { return 'A' <= c && c <= 'Z' }

func isDigit(c byte) bool { return '0' <= c && c <= '9' }

func isSeen(c byte) bool { return 33 <= c && c <= 126 }

func isBlank(c byte) bool { return c == ' ' || c == '\t' }
