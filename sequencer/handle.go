package sequencer

import (
	"blotter/api"
	"blotter/authtok"
	"blotter/msg"
	"blotter/wsock"
)

const (
	done            = 200
	badRequest      = 400
	unauthorized    = 401
	forbidden       = 403
	notFound        = 404
	notAllowed      = 405
	conflict        = 409
	upgradeRequired = 426
	serverFault     = 500
	noRoom          = 507
)

// Handle answers a request.
func (s *Server) Handle(keys []api.Secret, now int, r api.Request) api.Answer {
	if s.unmade() {
		return plain(serverFault)
	}
	method, answer := s.route(r.Path)
	if answer == nil {
		return plain(notFound)
	}
	if r.Method != method {
		return plain(notAllowed)
	}
	token, _ := authtok.Bearer(r)
	claim, e := authtok.Read(keys, now, token)
	if e != api.OK {
		return plain(unauthorized)
	}
	return answer(claim, r)
}

// route is the method that a path wants, and what answers there; nil, if there is no such path.
func (s *Server) route(path string) (string, func(api.Claim, api.Request) api.Answer) {
	switch path {
	case "/push":
		return "POST", s.answerPush
	case "/pull":
		return "POST", s.answerPull
	case "/top":
		return "GET", s.answerTop
	case "/poke":
		return "GET", s.answerPoke
	}
	return "", nil
}

func (s *Server) answerPush(claim api.Claim, r api.Request) api.Answer {
	return exchange(claim, r, api.MPush, s.Push)
}

func (s *Server) answerPull(claim api.Claim, r api.Request) api.Answer {
	return exchange(claim, r, api.MPull, s.Pull)
}

func (s *Server) answerTop(api.Claim, api.Request) api.Answer {
	return told(api.Msg{Kind: api.MPoke, Top: s.Top()})
}

func (s *Server) answerPoke(_ api.Claim, r api.Request) api.Answer {
	key, asks := wsock.Asks(r)
	if !asks {
		return plain(upgradeRequired)
	}
	a, _ := wsock.Answer(key)
	return a
}

// exchange hands the message of a request, which must be of that kind and from whom the token names, to a call that answers another one.
func exchange(claim api.Claim, r api.Request, kind int, call func(api.Msg) (api.Msg, api.Errno)) api.Answer {
	m, e := msg.Read(string(r.Body))
	if e != api.OK || m.Kind != kind {
		return plain(badRequest)
	}
	if m.Client != claim.Client {
		return plain(forbidden)
	}
	back, e := call(m)
	if e != api.OK {
		return plain(statusOf(e))
	}
	return told(back)
}

// statusOf is the status with which an error is answered.
func statusOf(e api.Errno) int {
	switch e {
	case api.ErrGap:
		return conflict
	case api.ErrFull:
		return noRoom
	}
	return serverFault
}

// plain is an answer that says nothing but its status.
func plain(status int) api.Answer { return api.Answer{Status: status} }

// told is an answer with a message.
func told(m api.Msg) api.Answer {
	text, _ := msg.Write(m)
	return api.Answer{Status: done, Headers: []api.Header{{Name: "content-type", Value: "application/json"}}, Body: []byte(text)}
}
