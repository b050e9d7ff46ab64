package httpd

import (
	"bytes"
	"slices"

	"blotter/api"
)

// Print is a request's bytes.
func Print(r api.Request) ([]byte, api.Errno) {
	b := []byte(r.Method + " " + r.Path + " " + version + lineEnd)
	for _, h := range r.Headers {
		b = appendHeader(b, h)
	}
	b = append(b, lineEnd...)
	b = append(b, r.Body...)
	back, n, status := Parse(b)
	if status != whole || n != len(b) || !same(back, r) {
		return nil, api.ErrArg
	}
	return b, api.OK
}

// same tells whether two requests are one, nil and empty lists being the same.
func same(a, b api.Request) bool {
	return a.Method == b.Method && a.Path == b.Path && slices.Equal(a.Headers, b.Headers) && bytes.Equal(a.Body, b.Body)
}
