package jsonx

import (
	"strconv"

	"blotter/api"
)

// Print is a value as a text.
func Print(v api.Json) (string, api.Errno) {
	if e := Check(v); e != api.OK {
		return "", e
	}
	var p printer
	p.value(v)
	if p.full() {
		return "", api.ErrLong
	}
	return string(p.text), api.OK
}

// printer is a text that grows, up to somewhere behind MaxJson.
type printer struct{ text []byte }

// full tells whether the text is too long already: what comes behind does not matter then.
func (p *printer) full() bool { return len(p.text) > api.MaxJson }

func (p *printer) put(s string) { p.text = append(p.text, s...) }

// value prints one that Check takes.
func (p *printer) value(v api.Json) {
	switch v.Kind {
	case api.JNull:
		p.put("null")
	case api.JBool:
		p.put(strconv.FormatBool(v.Int == 1))
	case api.JInt:
		p.put(strconv.FormatInt(v.Int, 10))
	case api.JText:
		p.quoted(v.Text)
	case api.JList:
		p.list(v)
	case api.JObject:
		p.object(v)
	}
}

func (p *printer) list(v api.Json) {
	p.put("[")
	for i := 0; i < len(v.Items) && !p.full(); i++ {
		p.comma(i)
		p.value(v.Items[i])
	}
	p.put("]")
}

func (p *printer) object(v api.Json) {
	p.put("{")
	order := rising(v.Names)
	for i := 0; i < len(order) && !p.full(); i++ {
		p.comma(i)
		p.quoted(v.Names[order[i]])
		p.put(":")
		p.value(v.Items[order[i]])
	}
	p.put("}")
}

// comma parts the item of that place from the one ahead.
func (p *printer) comma(i int) {
	if i > 0 {
		p.put(",")
	}
}

const hexDigits = "0123456789abcdef"

func (p *printer) quoted(s string) {
	p.put(`"`)
	for i := 0; i < len(s) && !p.full(); i++ {
		switch c := s[i]; {
		case c == '"' || c == '\\':
			p.text = append(p.text, '\\', c)
		case c < ' ':
			p.text = append(p.text, '\\', 'u', '0', '0', hexDigits[c>>4], hexDigits[c&15])
		default:
			p.text = append(p.text, c)
		}
	}
	p.put(`"`)
}
