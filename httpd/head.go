package httpd

import (
	"strconv"
	"strings"

	"blotter/api"
	"blotter/header"
)

const (
	version   = "HTTP/1.1"
	maxMethod = 16
	maxTarget = 1024
	maxLength = 9 // digits that say how long a body is
)

// bodyForm is how a body comes: in chunks, or as so many bytes.
type bodyForm struct {
	chunked bool
	size    int
}

// readHead is the request of a head, still without its body, and how that comes; or what refuses it.
func readHead(head string) (api.Request, bodyForm, int) {
	lines := strings.Split(head, lineEnd)
	for _, line := range lines {
		if strings.ContainsAny(line, lineEnd) {
			return api.Request{}, bodyForm{}, badRequest
		}
	}
	method, target, status := readFirst(lines[0])
	if status != whole {
		return api.Request{}, bodyForm{}, status
	}
	headers, status := readHeaders(lines[1:])
	if status != whole {
		return api.Request{}, bodyForm{}, status
	}
	form, status := readForm(headers)
	if status != whole {
		return api.Request{}, bodyForm{}, status
	}
	return api.Request{Method: method, Path: target, Headers: headers}, form, whole
}

// readFirst is what a request's first line says.
func readFirst(line string) (method, target string, status int) {
	parts := strings.Split(line, " ")
	if len(parts) != 3 {
		return "", "", badRequest
	}
	switch {
	case !isMethod(parts[0]) || !isTarget(parts[1]) || !isVersion(parts[2]):
		return "", "", badRequest
	case parts[2] != version:
		return "", "", otherVersion
	case !isKnown(parts[0]):
		return "", "", notBuilt
	case len(parts[1]) > maxTarget:
		return "", "", longTarget
	}
	return parts[0], parts[1], whole
}

func isMethod(s string) bool { return 0 < len(s) && len(s) <= maxMethod && all(s, isCapital) }

func isTarget(s string) bool { return strings.HasPrefix(s, "/") && all(s, isSeen) }

func isVersion(s string) bool {
	number, ok := strings.CutPrefix(s, "HTTP/")
	return ok && len(number) == 3 && isDigit(number[0]) && number[1] == '.' && isDigit(number[2])
}

func isKnown(method string) bool {
	return method == "GET" || method == "PUT" || method == "POST" || method == "DELETE"
}

// readHeaders is what the lines behind the first one say.
func readHeaders(lines []string) ([]api.Header, int) {
	var headers []api.Header
	for _, line := range lines {
		if len(headers) == api.MaxHeaders {
			return nil, largeHead
		}
		name, value, ok := strings.Cut(line, ":")
		value = strings.Trim(value, " \t")
		if !ok || !isToken(name) || !isValue(value) {
			return nil, badRequest
		}
		headers = append(headers, api.Header{Name: header.Small(name), Value: value})
	}
	return headers, whole
}

// readForm is how the body comes, by headers whose names are in small letters.
func readForm(headers []api.Header) (bodyForm, int) {
	encodings := header.Values(headers, "transfer-encoding")
	hosts := header.Values(headers, "host")
	lengths := header.Values(headers, "content-length")
	switch {
	case len(encodings) > 1 || len(encodings) == 1 && header.Small(encodings[0]) != "chunked":
		return bodyForm{}, notBuilt
	case len(hosts) != 1 || hosts[0] == "":
		return bodyForm{}, badRequest
	case len(encodings)+len(lengths) > 1:
		return bodyForm{}, badRequest
	case len(lengths) == 0:
		return bodyForm{chunked: len(encodings) == 1}, whole
	}
	size, ok := readLength(lengths[0])
	if !ok {
		return bodyForm{}, badRequest
	}
	if size > api.MaxBody {
		return bodyForm{}, tooLarge
	}
	return bodyForm{size: size}, whole
}

// readLength is a number of few digits, noughts ahead or not.
func readLength(s string) (int, bool) {
	if len(s) > maxLength || !all(s, isDigit) {
		return 0, false
	}
	n, err := strconv.Atoi(s)
	return n, err == nil
}
