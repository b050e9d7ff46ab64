// Package header is what several layers ask of a head's fields, whose names and words stand in letters of any size.
package header

import (
	"blotter/api"
)

// Small is a text with small letters for its capitals. The library's way would change other characters too.
func Small(s string) string {
	b := []byte(s)
	for i, c := range b {
		if 'A' <= c && c <= 'Z' {
			b[i] = c - 'A' + 'a'
		}
	}
	return string(b)
}

// Values is the values of all fields of a name.
func Values(l []api.Header, name string) []string {
	name = Small(name)
	var values []string
	for _, h := range l {
		if Small(h.Name) == name {
			values = append(values, h.Value)
		}
	}
	return values
}

// Only is the value of a field whose name no other one has.
func Only(l []api.Header, name string) (string, bool) {
	values := Values(l, name)
	if len(values) != 1 {
		return "", false
	}
	return values[0], true
}
