package console

import (
	"math/rand"
	"strconv"
	"strings"
	"testing"

	"blotter/api"
	"blotter/board"
	"blotter/platform"
	"blotter/wire"
)

// saying is a line with what it should do, told by platform's and board's own calls.
type saying struct {
	text string
	play func(w **platform.World) string
}

// author writes sayings by chance.
type author struct{ r *rand.Rand }

func (a author) of(list ...string) string { return list[a.r.Intn(len(list))] }

func (a author) node() int { return []int{0, 1, 1, 1, 2, 2, 2, 3, 4, 15}[a.r.Intn(10)] }

func (a author) conn() int { return a.r.Intn(12) }

func (a author) most() int { return []int{0, 1, 40, 300, 131072, 999999999}[a.r.Intn(6)] }

// word is a name, or the empty text, as it stands in a line.
func word(s string) string {
	if s == "" {
		return "-"
	}
	return s
}

// quote is a text as JSON has it, in one of its forms.
func quote(s string) string {
	var b strings.Builder
	for _, c := range []byte(s) {
		switch {
		case c == '"' || c == '\\':
			b.WriteString(`\` + string(rune(c)))
		case c < 32:
			b.WriteString(`\u00` + string("01"[c>>4]) + string("0123456789abcdef"[c&15]))
		default:
			b.WriteByte(c)
		}
	}
	return `"` + b.String() + `"`
}

func done(e api.Errno) string {
	if e == api.OK {
		return "ok"
	}
	return "error " + strconv.Itoa(int(e))
}

// step is a saying that does a step.
func step(s api.Step, parts ...any) saying {
	return saying{text: join(parts...), play: func(w **platform.World) string {
		if *w == nil {
			return "error 8"
		}
		return done((*w).Step(s))
	}}
}

func join(parts ...any) string {
	var l []string
	for _, p := range parts {
		switch x := p.(type) {
		case int:
			l = append(l, strconv.Itoa(x))
		case string:
			l = append(l, x)
		}
	}
	return strings.Join(l, " ")
}

func (a author) text() string {
	if a.r.Intn(2) == 0 {
		return "x"
	}
	return a.of("two words", `"`, `\`, ` \" `, "é😀", "a\nb", "", "\x01\x1f", "#", strings.Repeat("t", 512), strings.Repeat("t", 513))
}

func (a author) mutation() saying {
	node, issue := a.node(), a.of("a", "a", "a", "b", "b", "c", "")
	m := api.Mutation{Issue: issue}
	s := func(word string, kind int, parts ...any) saying {
		m.Kind = kind
		return step(api.Step{Kind: api.SMutate, Node: node, M: m}, append([]any{word, node}, parts...)...)
	}
	i := word(issue)
	name, text := a.of("x", "x", "x", "y", "y", ""), a.text()
	switch a.r.Intn(12) {
	case 0:
		m.Text = text
		return s("title", api.KTitle, i, quote(text))
	case 1:
		m.Text = a.of("open", "open", "closed", "shut", "")
		return s("status", api.KStatus, i, word(m.Text))
	case 2:
		m.Name = name
		return s("assign", api.KAssign, i, word(name))
	case 3:
		m.Name = name
		return s("uncomment", api.KUncomment, i, word(name))
	case 4:
		m.Name = name
		return s("label", api.KLabel, i, word(name))
	case 5:
		m.Name = name
		return s("unlabel", api.KUnlabel, i, word(name))
	case 6:
		m.Name, m.Text = name, text
		return s("comment", api.KComment, i, word(name), quote(text))
	case 7:
		m.Name, m.Text = name, text
		return s("edit", api.KEdit, i, word(name), quote(text))
	case 8:
		if a.r.Intn(2) == 0 {
			return s("delete", api.KDelete, i)
		}
		fallthrough
	default:
		m.Text = text
		return s("create", api.KCreate, i, quote(text))
	}
}

func (a author) bits() ([]bool, string) {
	var keep []bool
	text := ""
	for range a.r.Intn(6) {
		one := a.r.Intn(3) > 0
		keep = append(keep, one)
		text += map[bool]string{false: "0", true: "1"}[one]
	}
	return keep, word(text)
}

func (a author) bytes() []byte {
	b := []byte(a.of("GET /top HTTP/1.1\r\nhost: a\r\n\r\n", "POST /push HTTP/1.1\r\nhost: a\r\ncontent-length: 3\r\n\r\nabc", "\x00\xff\xfe", "GET", "x\r\n\r\n"))
	return b[:1+a.r.Intn(len(b))]
}

func (a author) machines() saying {
	node, conn := a.node(), a.conn()
	switch a.r.Intn(12) {
	case 0:
		return step(api.Step{Kind: api.SWatch, Node: node}, "watch", node)
	case 1:
		return step(api.Step{Kind: api.SCompact, Node: node}, "compact", node)
	case 2:
		return step(api.Step{Kind: api.SCut, Conn: conn}, "cut", conn)
	case 3:
		n := []int{0, 1, 25600, 999999999}[a.r.Intn(4)]
		return step(api.Step{Kind: api.SPass, N: n}, "pass", n)
	case 4:
		keep, text := a.bits()
		tear := a.r.Intn(3) * a.r.Intn(20)
		return step(api.Step{Kind: api.SCrash, Node: node, Keep: keep, Tear: tear}, "crash", node, text, tear)
	case 5:
		return step(api.Step{Kind: api.SDial}, "dial")
	case 6:
		return step(api.Step{Kind: api.SRotate}, "rotate")
	case 7:
		b := a.bytes()
		return step(api.Step{Kind: api.SForge, Conn: conn, Bytes: b}, "forge", conn, wire.Spell(b))
	case 8, 9:
		return step(api.Step{Kind: api.SStart, Node: node}, "start", node)
	case 10:
		return step(api.Step{Kind: api.SAct, Node: node}, "act", node)
	default:
		n := a.most()
		return step(api.Step{Kind: api.SCarry, Conn: conn, Node: node, N: n}, "carry", conn, node, n)
	}
}

// seen is what a machine of a world sees; false, if it does not run.
func seen(w *platform.World, node int) ([]api.Entry, bool) {
	if node == 0 {
		return w.Server().State(), w.Server() != nil
	}
	return w.Client(node).View(), w.Client(node) != nil
}

func (a author) list() saying {
	node := a.node()
	f := api.Filter{Status: a.of("", "", "open", "closed", "shut"), Owner: a.of("", "", "x"), Label: a.of("", "", "x"), After: a.of("", "", "a"), Word: a.of("", "", "x", "two w", strings.Repeat("w", 513)), Most: a.r.Intn(4) + a.r.Intn(12)/11*98}
	text := join("list", node, word(f.Status), word(f.Owner), word(f.Label), word(f.After), f.Most, quote(f.Word))
	return saying{text: text, play: func(w **platform.World) string {
		if *w == nil {
			return "error 8"
		}
		l, ok := seen(*w, node)
		if !ok {
			return "error 161"
		}
		issues, more, e := board.List(l, f)
		if e != api.OK {
			return done(e)
		}
		s := "list"
		for _, i := range issues {
			s += " " + i.ID
		}
		if more {
			s += " .."
		}
		return s
	}}
}

func (a author) show() saying {
	node, id := a.node(), a.of("a", "b", "c", "")
	return saying{text: join("show", node, word(id)), play: func(w **platform.World) string {
		if *w == nil {
			return "error 8"
		}
		l, ok := seen(*w, node)
		if !ok {
			return "error 161"
		}
		i, ok := board.Find(l, id)
		if !ok {
			return "error 111"
		}
		s := "issue " + i.ID + " " + i.Status + " " + quote(i.Owner) + " " + quote(i.Title)
		for _, n := range i.Labels {
			s += " #" + n
		}
		for _, c := range i.Comments {
			s += " " + c.ID + " " + c.By + " " + quote(c.Text)
		}
		return s
	}}
}

func log(w **platform.World) string {
	if *w == nil {
		return "error 8"
	}
	s := ""
	all := (*w).Server().Log(0, 1<<30)
	for _, l := range all {
		s += " " + l.Client + "." + strconv.Itoa(l.ID)
	}
	return "log " + strconv.Itoa(len(all)) + s
}

func top(w **platform.World) string {
	if *w == nil {
		return "error 8"
	}
	return "top " + strconv.Itoa((*w).Server().Top())
}

func (a author) world() saying {
	clients, room := []int{0, 1, 2, 3, 3, 3, 9}[a.r.Intn(7)], []int{2000, 1 << 18, 1 << 18, 1 << 18, 1<<24 + 1}[a.r.Intn(5)]
	return saying{text: join("world", clients, room), play: func(w **platform.World) string {
		made, e := platform.New(clients, room)
		if e == api.OK {
			*w = made
		}
		return done(e)
	}}
}

func (a author) rounds() saying {
	n := a.r.Intn(5)
	return saying{text: join("round", n), play: func(w **platform.World) string {
		if *w == nil {
			return "error 8"
		}
		for range n {
			(*w).Round()
		}
		return "ok"
	}}
}

func (a author) saying() saying {
	switch n := a.r.Intn(100); {
	case n < 50:
		return a.mutation()
	case n < 65:
		return a.machines()
	case n < 75:
		return a.rounds()
	case n < 83:
		return a.list()
	case n < 95:
		return a.show()
	case n < 97:
		return saying{text: "log", play: log}
	case n < 99:
		return saying{text: "top", play: top}
	}
	return a.world()
}

// script is lines of chance, and the report's lines that should come of them.
func (a author) script() (lines, report []string) {
	var w *platform.World
	sayings := []saying{}
	if a.r.Intn(8) > 0 {
		sayings = append(sayings, a.world())
	}
	for range a.r.Intn(200) {
		sayings = append(sayings, a.saying())
	}
	for _, s := range sayings {
		lines = append(lines, s.text)
		report = append(report, s.play(&w)+"\n")
	}
	return lines, report
}

func mustRun(t *testing.T, text string) string {
	t.Helper()
	report, at, e := Run(text)
	if at != 0 || e != api.OK {
		t.Fatalf("Run(%q): %d, %d", text, at, e)
	}
	return report
}

func TestP17_2Chance(t *testing.T) {
	words := map[string]int{}
	for seed := range 400 {
		a := author{rand.New(rand.NewSource(int64(seed)))}
		lines, report := a.script()
		got := strings.SplitAfter(mustRun(t, strings.Join(lines, "\n")), "\n")
		for i, want := range append(report, "") {
			if i >= len(got) || got[i] != want {
				t.Fatalf("seed %d, line %d, %q: want %q; report %q", seed, i+1, append(lines, "")[i], want, got)
			}
		}
		if len(got) != len(lines)+1 {
			t.Fatalf("seed %d: the report has %d lines, the text %d", seed, len(got)-1, len(lines))
		}
		for i, l := range lines {
			w, _, _ := strings.Cut(l, " ")
			if !strings.HasPrefix(report[i], "error") {
				words[w]++
			}
		}
	}
	for _, l := range goodLines() {
		w, _, _ := strings.Cut(l, " ")
		if words[w] < 5 {
			t.Errorf("chance let %s come about %d times only", w, words[w])
		}
	}
}

func TestP17_3Beginnings(t *testing.T) {
	for seed := range 60 {
		a := author{rand.New(rand.NewSource(int64(1000 + seed)))}
		lines, _ := a.script()
		whole := mustRun(t, strings.Join(lines, "\n"))
		was := ""
		for n := 0; n <= len(lines); n += 1 + a.r.Intn(4) {
			part := mustRun(t, strings.Join(lines[:n], "\n"))
			if !strings.HasPrefix(whole, part) || !strings.HasPrefix(part, was) || strings.Count(part, "\n") != n {
				t.Fatalf("seed %d: the report of the first %d lines is no beginning of the whole one", seed, n)
			}
			was = part
		}
	}
}

func TestP17_4Silent(t *testing.T) {
	for seed := range 100 {
		a := author{rand.New(rand.NewSource(int64(2000 + seed)))}
		lines, _ := a.script()
		whole := mustRun(t, strings.Join(lines, "\n"))
		var more []string
		for _, l := range append(lines, "") {
			for a.r.Intn(3) == 0 {
				more = append(more, a.of("", "#", "# any \xff\x00\r words", "#top", "##", "# create 1 a", "#"+strings.Repeat(" ", 5000)))
			}
			more = append(more, l)
		}
		text := strings.Join(more, "\n")
		if len(text) > api.MaxJson {
			continue
		}
		if got := mustRun(t, text); got != whole {
			t.Fatalf("seed %d: lines that say nothing change the report", seed)
		}
	}
}

func TestP17_5Again(t *testing.T) {
	for seed := range 100 {
		a := author{rand.New(rand.NewSource(int64(3000 + seed)))}
		lines, _ := a.script()
		text := strings.Join(lines, "\n")
		one := mustRun(t, text)
		other, _ := a.script()
		mustRun(t, strings.Join(other, "\n"))
		if two := mustRun(t, text); two != one {
			t.Fatalf("seed %d: played again, the report is another one", seed)
		}
	}
}
