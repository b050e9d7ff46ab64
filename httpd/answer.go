package httpd

import (
	"bytes"
	"slices"
	"strconv"
	"strings"

	"blotter/api"
	"blotter/header"
)

// switching is the status behind which no HTTP comes, and which has no body.
const switching = 101

const contentLength = "content-length"

// Reason is a status's words.
func Reason(status int) string {
	switch status {
	case switching:
		return "Switching Protocols"
	case 200:
		return "OK"
	case 400:
		return "Bad Request"
	case 401:
		return "Unauthorized"
	case 403:
		return "Forbidden"
	case 404:
		return "Not Found"
	case 405:
		return "Method Not Allowed"
	case 409:
		return "Conflict"
	case 413:
		return "Content Too Large"
	case 414:
		return "URI Too Long"
	case 422:
		return "Unprocessable Content"
	case 426:
		return "Upgrade Required"
	case 431:
		return "Request Header Fields Too Large"
	case 500:
		return "Internal Server Error"
	case 501:
		return "Not Implemented"
	case 503:
		return "Service Unavailable"
	case 505:
		return "HTTP Version Not Supported"
	case 507:
		return "Insufficient Storage"
	}
	return ""
}

// Write is an answer's bytes.
func Write(a api.Answer) ([]byte, api.Errno) {
	switch {
	case Reason(a.Status) == "":
		return nil, api.ErrArg
	case len(a.Headers) >= api.MaxHeaders || slices.ContainsFunc(a.Headers, isNoAnswers):
		return nil, api.ErrHead
	case len(a.Body) > api.MaxBody || a.Status == switching && len(a.Body) > 0:
		return nil, api.ErrBody
	}
	b := []byte(statusLine(a.Status) + lineEnd)
	for _, h := range a.Headers {
		b = appendHeader(b, h)
	}
	if a.Status != switching {
		b = appendHeader(b, api.Header{Name: contentLength, Value: strconv.Itoa(len(a.Body))})
	}
	if len(b)-len(lineEnd) > api.MaxHead {
		return nil, api.ErrLong
	}
	b = append(b, lineEnd...)
	return append(b, a.Body...), api.OK
}

// statusLine is an answer's first line.
func statusLine(status int) string {
	return version + " " + strconv.Itoa(status) + " " + Reason(status)
}

// isNoAnswers tells whether an answer can't have a header.
func isNoAnswers(h api.Header) bool {
	return !isToken(h.Name) || header.Small(h.Name) != h.Name || h.Name == contentLength || !isValue(h.Value)
}

// Read is the answer with which bytes begin, and how many it has.
func Read(b []byte) (api.Answer, int, api.Errno) {
	head, e := cutHead(b)
	if e != api.OK {
		return api.Answer{}, 0, e
	}
	a, size, ok := readAnswer(head)
	if !ok {
		return api.Answer{}, 0, api.ErrHead
	}
	if size > api.MaxBody {
		return api.Answer{}, 0, api.ErrBody
	}
	b = b[len(head)+len(headEnd):]
	if len(b) < size {
		return api.Answer{}, 0, api.ErrShort
	}
	a.Body = bytes.Clone(b[:size])
	return a, len(head) + len(headEnd) + size, api.OK
}

// cutHead is what stands ahead of the first empty line.
func cutHead(b []byte) (string, api.Errno) {
	first := b[:min(len(b), api.MaxHead+len(headEnd))]
	head, _, found := bytes.Cut(first, []byte(headEnd))
	switch {
	case found:
		return string(head), api.OK
	case len(b) >= api.MaxHead+len(headEnd):
		return "", api.ErrHead
	}
	return "", api.ErrShort
}

// readAnswer is the answer of a head, still without its body, and how long that is.
func readAnswer(head string) (a api.Answer, size int, ok bool) {
	lines := strings.Split(head, lineEnd)
	status, ok := readStatus(lines[0])
	lines = lines[1:]
	if !ok || len(lines) > api.MaxHeaders {
		return api.Answer{}, 0, false
	}
	if status != switching {
		if len(lines) == 0 {
			return api.Answer{}, 0, false
		}
		size, ok = readOwnLength(lines[len(lines)-1])
		if !ok {
			return api.Answer{}, 0, false
		}
		lines = lines[:len(lines)-1]
	}
	headers, ok := readOwnHeaders(lines)
	return api.Answer{Status: status, Headers: headers}, size, ok
}

// readStatus is the status of a first line as Write writes it.
func readStatus(line string) (int, bool) {
	_, behind, _ := strings.Cut(line, " ")
	digits, _, _ := strings.Cut(behind, " ")
	status, err := strconv.Atoi(digits)
	return status, err == nil && Reason(status) != "" && line == statusLine(status)
}

// readOwnLength is what a last line as Write writes it says.
func readOwnLength(line string) (int, bool) {
	digits, ok := strings.CutPrefix(line, contentLength+": ")
	if !ok {
		return 0, false
	}
	size, ok := readLength(digits)
	return size, ok && strconv.Itoa(size) == digits
}

// readOwnHeaders is the headers of lines as Write writes them.
func readOwnHeaders(lines []string) ([]api.Header, bool) {
	var headers []api.Header
	for _, line := range lines {
		name, value, ok := strings.Cut(line, ": ")
		h := api.Header{Name: name, Value: value}
		if !ok || isNoAnswers(h) {
			return nil, false
		}
		headers = append(headers, h)
	}
	return headers, true
}
