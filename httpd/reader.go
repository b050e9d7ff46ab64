package httpd

import (
	"bytes"

	"blotter/api"
)

// What the reading of a request answers: that it is whole, that more is to come, or what refuses it.
const (
	whole        = 0
	more         = 1
	badRequest   = 400
	tooLarge     = 413
	longTarget   = 414
	largeHead    = 431
	notBuilt     = 501
	otherVersion = 505
)

const (
	lineEnd = "\r\n"
	headEnd = lineEnd + lineEnd
)

// maxDigits is how many digits say how long a chunk is.
const maxDigits = 8

// reader takes one request byte by byte. What takes the next byte stands in a field; whoever has taken the last one of its kind puts there what comes behind.
type reader struct {
	take    func(c byte) (status int)
	request api.Request
}

func newReader() *reader {
	r := &reader{}
	r.head()
	return r
}

// run takes bytes until the request is whole or refused, and says how many.
func (r *reader) run(b []byte) (n int, status int) {
	for i, c := range b {
		if status := r.take(c); status != more {
			return i + 1, status
		}
	}
	return len(b), more
}

// goOn lets the next byte be taken by another function.
func (r *reader) goOn(take func(c byte) int) int {
	r.take = take
	return more
}

// head takes what stands up to the first empty line; nothing of it is looked at ahead of that.
func (r *reader) head() int {
	var head []byte
	return r.goOn(func(c byte) int {
		head = append(head, c)
		if bytes.HasSuffix(head, []byte(headEnd)) {
			return r.behindHead(string(head[:len(head)-len(headEnd)]))
		}
		if len(head) == api.MaxHead+len(headEnd) {
			return largeHead
		}
		return more
	})
}

// behindHead looks at a head, and goes on with the body that it says.
func (r *reader) behindHead(head string) int {
	request, form, status := readHead(head)
	if status != whole {
		return status
	}
	r.request = request
	if form.chunked {
		return r.chunk()
	}
	return r.bytes(form.size, r.end)
}

// end is what comes behind the last byte.
func (r *reader) end() int { return whole }

// bytes takes so many into the body, and goes on.
func (r *reader) bytes(size int, then func() int) int {
	if size == 0 {
		return then()
	}
	return r.goOn(func(c byte) int {
		r.request.Body = append(r.request.Body, c)
		size--
		if size > 0 {
			return more
		}
		return then()
	})
}

// text takes just this one, and goes on.
func (r *reader) text(want string, then func() int) int {
	at := 0
	return r.goOn(func(c byte) int {
		if c != want[at] {
			return badRequest
		}
		at++
		if at < len(want) {
			return more
		}
		return then()
	})
}

// chunk takes a chunk's line, and goes on with its bytes.
func (r *reader) chunk() int {
	size, digits := uint32(0), 0
	return r.goOn(func(c byte) int {
		digit, ok := hexDigit(c)
		switch {
		case ok && digits < maxDigits:
			size, digits = size<<4|digit, digits+1
			return more
		case c == '\r' && digits > 0:
			return r.text("\n", func() int { return r.chunkBytes(size) })
		}
		return badRequest
	})
}

// chunkBytes takes a chunk's bytes, and goes on with the next one, or behind the last.
func (r *reader) chunkBytes(size uint32) int {
	if size > uint32(api.MaxBody-len(r.request.Body)) {
		return tooLarge
	}
	if size == 0 {
		return r.text(lineEnd, r.end)
	}
	return r.bytes(int(size), func() int { return r.text(lineEnd, r.chunk) })
}

func hexDigit(c byte) (uint32, bool) {
	switch {
	case isDigit(c):
		return uint32(c - '0'), true
	case 'a' <= c && c <= 'f':
		return uint32(c-'a') + 10, true
	case 'A' <= c && c <= 'F':
		return uint32(c-'A') + 10, true
	}
	return 0, false
}
