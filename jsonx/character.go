package jsonx

import (
	"strings"
	"unicode/utf8"

	"blotter/api"
	"blotter/wire"
)

// character reads one, byte by byte, up to the first byte with which none can begin any more.
func (p *parser) character() string {
	from := p.at
	for ; p.at < len(p.text); p.at++ {
		part := p.text[from : p.at+1]
		// A part that might still become a character is not full; one that is full may be wrong.
		if !utf8.FullRuneInString(part) {
			continue
		}
		if wire.Chars([]byte(part)) >= 0 {
			break
		}
		p.at++
		return part
	}
	p.giveUp(api.ErrJson)
	return ""
}

const (
	escapeLetters = `"\/bfnrt`
	escapeMeaning = "\"\\/\b\f\n\r\t"
)

// escape reads a \ and what belongs to it.
func (p *parser) escape() rune {
	p.take('\\')
	if p.next() == 'u' {
		p.at++
		return p.hexCharacter()
	}
	i := strings.IndexRune(escapeLetters, rune(p.next()))
	if i < 0 {
		p.giveUp(api.ErrJson)
	}
	p.at++
	return rune(escapeMeaning[i])
}

// units are numbers of four hexadecimal digits, the last one counted too.
type units struct{ first, last rune }

func (u units) has(n rune) bool { return u.first <= n && n <= u.last }

func (u units) holds(v units) bool { return u.has(v.first) && u.has(v.last) }

func (u units) meets(v units) bool { return u.first <= v.last && v.first <= u.last }

// hexCharacter reads what stands behind \u, and the other half of the character, if that is one.
func (p *parser) hexCharacter() rune {
	highs, lows := units{0xd800, 0xdbff}, units{0xdc00, 0xdfff}
	high := p.unit(func(u units) bool { return !lows.holds(u) })
	if !highs.has(high) {
		return high
	}
	p.word(`\u`)
	low := p.unit(lows.meets)
	return 0x10000 + (high-highs.first)<<10 + (low - lows.first)
}

// unit reads four hexadecimal digits; fits tells whether those that may still come of a beginning have a right one among them.
func (p *parser) unit(fits func(units) bool) rune {
	n := rune(0)
	for left := 3; left >= 0; left-- {
		d, ok := hexDigit(p.next())
		n = n<<4 | d
		open := rune(1)<<(4*left) - 1
		first := n << (4 * left)
		if !ok || !fits(units{first, first | open}) {
			p.giveUp(api.ErrJson)
		}
		p.at++
	}
	return n
}

func hexDigit(c int) (rune, bool) {
	switch {
	case isDigit(c):
		return rune(c - '0'), true
	case 'a' <= c && c <= 'f':
		return rune(c-'a') + 10, true
	case 'A' <= c && c <= 'F':
		return rune(c-'A') + 10, true
	}
	return 0, false
}
