package jsonx

import (
	"errors"
	"math"
	"strings"

	"blotter/api"
)

// Parse is the value of a text, or where it is none, and why.
func Parse(s string) (api.Json, int, api.Errno) {
	if len(s) > api.MaxJson {
		return api.Json{}, 0, api.ErrLong
	}
	v, err := read(s)
	if err == nil {
		return v, 0, api.OK
	}
	fault := api.Fault{Why: api.ErrJson}
	errors.As(err, &fault)
	return api.Json{}, fault.At, fault.Why
}

// read is the value of a text, or the fault with which the parser gave up.
func read(s string) (v api.Json, err error) {
	defer func() {
		if fault, ok := recover().(error); ok {
			v, err = api.Json{}, fault
		}
	}()
	p := parser{text: s}
	p.blanks()
	v = p.value()
	p.blanks()
	if p.at < len(s) {
		p.giveUp(api.ErrJson)
	}
	return v, nil
}

// parser reads a text from the left, and never goes on behind a byte that can't stand there.
type parser struct {
	text   string
	at     int // how many bytes are read
	around int // how many lists and objects are open
}

// giveUp ends the reading at the next byte.
func (p *parser) giveUp(why api.Errno) { panic(api.Fault{At: p.at, Why: why}) }

// end is what stands behind the last byte.
const end = -1

// next is the byte that comes next, which is not read yet, or end.
func (p *parser) next() int {
	if p.at == len(p.text) {
		return end
	}
	return int(p.text[p.at])
}

// take reads the one byte that can stand there.
func (p *parser) take(c byte) {
	if p.next() != int(c) {
		p.giveUp(api.ErrJson)
	}
	p.at++
}

// word reads just this one.
func (p *parser) word(w string) {
	for i := range len(w) {
		p.take(w[i])
	}
}

func (p *parser) blanks() {
	for isBlank(p.next()) {
		p.at++
	}
}

func isBlank(c int) bool { return c == ' ' || c == '\t' || c == '\n' || c == '\r' }

func isDigit(c int) bool { return '0' <= c && c <= '9' }

// value reads one, of any kind.
func (p *parser) value() api.Json {
	switch c := p.next(); {
	case c == '{':
		return p.object()
	case c == '[':
		return p.list()
	case c == '"':
		text := p.untilQuote()
		p.take('"')
		return api.Json{Kind: api.JText, Text: text}
	case c == '-' || isDigit(c):
		return api.Json{Kind: api.JInt, Int: p.number()}
	case c == 't':
		p.word("true")
		return api.Json{Kind: api.JBool, Int: 1}
	case c == 'f':
		p.word("false")
		return api.Json{Kind: api.JBool}
	case c == 'n':
		p.word("null")
		return api.Json{}
	}
	p.giveUp(api.ErrJson)
	return api.Json{}
}

func (p *parser) list() api.Json {
	v := api.Json{Kind: api.JList}
	p.members(']', func() { v.Items = append(v.Items, p.value()) })
	return v
}

func (p *parser) object() api.Json {
	v := api.Json{Kind: api.JObject}
	seen := map[string]struct{}{}
	p.members('}', func() {
		name := p.untilQuote()
		if _, twice := seen[name]; twice {
			p.giveUp(api.ErrTwice)
		}
		p.take('"')
		seen[name] = struct{}{}
		p.blanks()
		p.take(':')
		p.blanks()
		v.Names = append(v.Names, name)
		v.Items = append(v.Items, p.value())
	})
	return v
}

// members reads a list or an object, from the bracket at which it begins up to the one that closes it.
func (p *parser) members(closing byte, member func()) {
	if p.around == api.MaxDeep {
		p.giveUp(api.ErrDeep)
	}
	p.around++
	p.at++
	p.blanks()
	if p.next() != int(closing) {
		member()
		for p.blanks(); p.next() == ','; p.blanks() {
			p.at++
			p.blanks()
			member()
		}
	}
	p.take(closing)
	p.around--
}

// number reads a whole number of 64 bits.
func (p *parser) number() int64 {
	most := uint64(math.MaxInt64)
	negative := p.next() == '-'
	if negative {
		most++
		p.at++
	}
	n := p.digits(most)
	if c := p.next(); c == '.' || c == 'e' || c == 'E' {
		p.giveUp(api.ErrNumber)
	}
	if negative {
		return int64(-n)
	}
	return int64(n)
}

// digits reads a number that is at most most.
func (p *parser) digits(most uint64) uint64 {
	if p.next() == '0' {
		p.at++
		if isDigit(p.next()) {
			p.giveUp(api.ErrJson)
		}
		return 0
	}
	if !isDigit(p.next()) {
		p.giveUp(api.ErrJson)
	}
	n := uint64(0)
	for ; isDigit(p.next()); p.at++ {
		d := uint64(p.next() - '0')
		if n > (most-d)/10 {
			p.giveUp(api.ErrNumber)
		}
		n = n*10 + d
	}
	return n
}

// untilQuote reads the " that begins a text, and the text up to the " that ends it, which is not read.
func (p *parser) untilQuote() string {
	p.take('"')
	var text strings.Builder
	for p.next() != '"' {
		switch c := p.next(); {
		case c == '\\':
			text.WriteRune(p.escape())
		case c < ' ': // the end too
			p.giveUp(api.ErrJson)
		default:
			text.WriteString(p.character())
		}
	}
	return text.String()
}
