package console

import (
	"errors"
	"strconv"

	"blotter/api"
	"blotter/board"
	"blotter/platform"
)

const mostRounds = 100

// player plays lines in the world that they tell; nil: there is none yet.
type player struct{ world *platform.World }

// answer plays a line: what the report says of it.
func (p *player) answer(l line) string {
	told, err := p.play(l)
	// OK is an error's number as well: it stands for none.
	var e api.Errno
	if errors.As(err, &e) && e != api.OK {
		return "error " + strconv.Itoa(int(e))
	}
	return told
}

// play does what a line says; that it was done is said by nil or by OK, as the layer below has it.
func (p *player) play(l line) (string, error) {
	if l.word == "world" {
		return "ok", p.begin(l.numbers[0], l.numbers[1])
	}
	if p.world == nil {
		return "", api.ErrNil
	}
	switch l.word {
	case "round":
		p.rounds(l.numbers[0])
		return "ok", nil
	case "list":
		return p.list(l)
	case "show":
		return p.show(l)
	case "top":
		return "top " + strconv.Itoa(p.top()), nil
	case "log":
		return tellLog(p.world.Server().Log(0, p.top())), nil
	}
	return "ok", p.world.Step(stepOf(l))
}

// begin makes the world in which all goes on; where there can't be such a one, the one before stays.
func (p *player) begin(clients, room int) api.Errno {
	w, e := platform.New(clients, room)
	if e == api.OK {
		p.world = w
	}
	return e
}

func (p *player) rounds(n int) {
	for range min(n, mostRounds) {
		p.world.Round()
	}
}

// top is how many mutations the server's log has; a server that does not run tells of none.
func (p *player) top() int { return p.world.Server().Top() }

// seen is what a machine sees of issues.
func (p *player) seen(node int) ([]api.Entry, error) {
	if node == 0 {
		if s := p.world.Server(); s != nil {
			return s.State(), nil
		}
		return nil, api.ErrDown
	}
	if c := p.world.Client(node); c != nil {
		return c.View(), nil
	}
	return nil, api.ErrDown
}

func (p *player) list(l line) (string, error) {
	entries, err := p.seen(l.numbers[0])
	if err != nil {
		return "", err
	}
	issues, more, e := board.List(entries, api.Filter{
		Status: l.texts[0],
		Owner:  l.texts[1],
		Label:  l.texts[2],
		After:  l.texts[3],
		Most:   l.numbers[1],
		Word:   l.texts[4],
	})
	return tellList(issues, more), e
}

func (p *player) show(l line) (string, error) {
	entries, err := p.seen(l.numbers[0])
	if err != nil {
		return "", err
	}
	issue, ok := board.Find(entries, l.texts[0])
	if !ok {
		return "", api.ErrMissing
	}
	return tellIssue(issue), nil
}
