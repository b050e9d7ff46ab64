package platform

import (
	"strconv"

	"blotter/api"
	"blotter/authtok"
	"blotter/client"
	"blotter/httpd"
	"blotter/msg"
)

// group is of all clients.
const group = "g"

// done is the status of an answer that says what was asked.
const done = 200

// member is a client's machine.
type member struct {
	box
	core   *client.Client // nil: it does not run
	asking asking
	pokes  pokes
}

// asking is what a client knows of its requests.
type asking struct {
	conn     int    // 0: it has none
	awaits   int    // the kind of the message to which it waits for an answer; 0: to none
	came     []byte // of that answer
	failed   int    // how often, since it last did not
	until    int    // when it waits no more
	pullNext bool
}

func (m *member) runs() bool { return m.core != nil }

func (m *member) start() api.Errno {
	core, e := client.Open(m.disk, Name(m.node))
	if e != api.OK {
		return e
	}
	m.core = core
	return api.OK
}

func (m *member) crash(keep []bool, tear int) {
	m.lose(keep, tear)
	*m = member{box: m.box}
}

func (m *member) compact() api.Errno { return m.core.Compact() }

func (m *member) take(conn int, b []byte) {
	switch conn {
	case m.asking.conn:
		m.takeAnswers(b)
	case m.pokes.conn:
		m.takePokes(b)
	}
}

// act asks the server what comes next, unless it is to wait.
func (m *member) act() {
	a := &m.asking
	if a.conn != 0 && !m.world.isThere(a.conn) {
		m.fail()
	}
	if a.awaits != 0 || a.until > m.world.now {
		return
	}
	if a.conn == 0 {
		conn, e := m.world.dial(m.node)
		if e != api.OK {
			m.fail()
			return
		}
		a.conn = conn
	}
	if !m.ask() {
		m.fail()
	}
}

// fail gives up what was asked, and waits the longer, the more often it failed.
func (m *member) fail() {
	a := &m.asking
	m.world.net.Cut(a.conn)
	*a = asking{
		failed:   a.failed + 1,
		until:    m.world.now + client.Wait(a.failed),
		pullNext: a.pullNext,
	}
}

// ask sends the next request; false, if it could not.
func (m *member) ask() bool {
	path, question := m.question()
	body, _ := msg.Write(question)
	b, e := httpd.Print(api.Request{
		Method:  "POST",
		Path:    path,
		Headers: m.headers(api.Header{Name: "content-length", Value: strconv.Itoa(len(body))}),
		Body:    []byte(body),
	})
	m.asking.awaits = question.Kind
	return e == api.OK && m.send(m.asking.conn, b)
}

// question is the message that is to be sent next, and where to. Behind a push comes a pull, so that who wants much still hears of others.
func (m *member) question() (path string, question api.Msg) {
	a := &m.asking
	if push, ok := m.core.Push(); ok && !a.pullNext {
		a.pullNext = true
		return "/push", push
	}
	a.pullNext = false
	pull, _ := m.core.Pull()
	return "/pull", pull
}

// headers is those of each request, which say who asks, and these behind them.
func (m *member) headers(others ...api.Header) []api.Header {
	token, _ := authtok.Make(m.world.secrets, api.Claim{Client: Name(m.node), Group: group, Until: api.MaxTime})
	l := []api.Header{
		{Name: "host", Value: "server"},
		{Name: "authorization", Value: "Bearer " + token},
	}
	return append(l, others...)
}

// takeAnswers takes the answers that are whole by now.
func (m *member) takeAnswers(b []byte) {
	a := &m.asking
	a.came = append(a.came, b...)
	for {
		answer, n, e := httpd.Read(a.came)
		switch {
		case e == api.OK && m.isAnswered(answer):
			*a = asking{conn: a.conn, came: a.came[n:], pullNext: a.pullNext}
		case e == api.ErrShort && !m.world.net.Done(a.conn, m.node):
			return
		default:
			m.fail()
			return
		}
	}
}

// isAnswered tells whether an answer is one to what was asked, and takes what it says.
func (m *member) isAnswered(answer api.Answer) bool {
	told, e := msg.Read(string(answer.Body))
	if answer.Status != done || e != api.OK {
		return false
	}
	switch m.asking.awaits {
	case api.MPush:
		return told.Kind == api.MPushed
	case api.MPull:
		return m.core.Pulled(told) == api.OK
	}
	return false
}
