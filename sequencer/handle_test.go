package sequencer_test

import (
	"reflect"
	"strings"
	"testing"

	"blotter/api"
	"blotter/authtok"
	"blotter/disk"
	"blotter/msg"
	"blotter/sequencer"
	"blotter/wsock"
)

const tokenUntil = 1000

func secrets(ids ...int) []api.Secret {
	var l []api.Secret
	for _, id := range ids {
		l = append(l, api.Secret{ID: id, Bytes: []byte(strings.Repeat(string(rune('a'+id)), 16))})
	}
	return l
}

func bearer(t *testing.T, client string, keys []api.Secret) api.Header {
	t.Helper()
	token, e := authtok.Make(keys, api.Claim{Client: client, Group: "g", Until: tokenUntil})
	if e != api.OK {
		t.Fatal(e)
	}
	return api.Header{Name: "Authorization", Value: "bearer " + token}
}

// request is one of a client that has a token of the secret 1.
func request(t *testing.T, client, method, path, body string) api.Request {
	t.Helper()
	return api.Request{Method: method, Path: path, Headers: []api.Header{{Name: "host", Value: "server"}, bearer(t, client, secrets(1))}, Body: []byte(body)}
}

func textOf(t *testing.T, m api.Msg) string {
	t.Helper()
	s, e := msg.Write(m)
	if e != api.OK {
		t.Fatalf("%v: error %d", m, e)
	}
	return s
}

func wantStatus(t *testing.T, s *sequencer.Server, r api.Request, status int) {
	t.Helper()
	if a := s.Handle(secrets(1), 0, r); !reflect.DeepEqual(a, api.Answer{Status: status}) {
		t.Errorf("%s %s: %v, want %d alone", r.Method, r.Path, a, status)
	}
}

func wantBody(t *testing.T, s *sequencer.Server, r api.Request, body string) {
	t.Helper()
	want := api.Answer{Status: 200, Headers: []api.Header{{Name: "content-type", Value: "application/json"}}, Body: []byte(body)}
	if a := s.Handle(secrets(1), 0, r); !reflect.DeepEqual(a, want) {
		t.Errorf("%s %s: %v, want %v", r.Method, r.Path, a, want)
	}
}

// The document's second example.
func TestP14_4Example(t *testing.T) {
	s := open(t, newDisk(t, 100000))
	body := textOf(t, pushOf("c1", 1, create("a")))
	wantStatus(t, s, api.Request{Method: "GET", Path: "/push", Body: []byte(body)}, 405)
	wantStatus(t, s, api.Request{Method: "POST", Path: "/push", Body: []byte(body)}, 401)
	wantStatus(t, s, request(t, "c2", "POST", "/push", body), 403)
	wantSame(t, "refused", s, told{last: []int{0, 0, 0}})
}

func TestP14_4Done(t *testing.T) {
	s := open(t, newDisk(t, 100000))
	wantBody(t, s, request(t, "c9", "GET", "/top", ""), `{"top":0,"type":"poke"}`)
	push := request(t, "c1", "POST", "/push", textOf(t, pushOf("c1", 1, create("a"), create("b"))))
	for range 2 {
		wantBody(t, s, push, `{"last":2,"top":2,"type":"pushed"}`)
	}
	wantBody(t, s, request(t, "c2", "POST", "/push", " "+textOf(t, pushOf("c2", 1, create("c")))), `{"last":1,"top":3,"type":"pushed"}`)
	wantBody(t, s, request(t, "c2", "POST", "/pull", textOf(t, pullOf("c2", 2))), `{"cookie":3,"from":2,"last":1,"list":[{"client":"c2","id":1,"m":{"issue":"c","kind":1,"name":"","text":"t"}}],"top":3,"type":"patch"}`)
	wantBody(t, s, request(t, "c1", "POST", "/pull", textOf(t, pullOf("c1", 3))), `{"cookie":3,"from":3,"last":2,"list":[],"top":3,"type":"patch"}`)
	wantBody(t, s, request(t, "c9", "GET", "/top", "whatever"), `{"top":3,"type":"poke"}`)
}

// Of several things that are wrong the first one is answered.
func TestP14_4Refused(t *testing.T) {
	s := open(t, newDisk(t, 100000))
	wantPushed(t, s, pushOf("c1", 1, create("a")), 1, 1)
	was := tells(s)
	for _, path := range []string{"", "/", "push", "/push/", "/push?x", "/Push", "//push", "/pushed", "/pul", "/top ", " /top", "/poke/x", "/none"} {
		for _, method := range []string{"GET", "POST", "PUT", ""} {
			wantStatus(t, s, api.Request{Method: method, Path: path}, 404)
			wantStatus(t, s, request(t, "c1", method, path, textOf(t, pushOf("c1", 2, create("b")))), 404)
		}
	}
	right := map[string]string{"/push": "POST", "/pull": "POST", "/top": "GET", "/poke": "GET"}
	for path, only := range right {
		for _, method := range []string{"GET", "POST", "PUT", "HEAD", "", "post", "get", "GET "} {
			if method != only {
				wantStatus(t, s, request(t, "c1", method, path, textOf(t, pushOf("c1", 2, create("b")))), 405)
				wantStatus(t, s, api.Request{Method: method, Path: path}, 405)
			}
		}
		wantStatus(t, s, api.Request{Method: only, Path: path}, 401)
	}
	for _, path := range []string{"/push", "/pull"} {
		for _, body := range []string{"", "{}", "x", "[]", textOf(t, api.Msg{Kind: api.MPoke}), textOf(t, api.Msg{Kind: api.MPushed}), textOf(t, api.Msg{Kind: api.MPatch}), `{"client":"c1","cookie":-1,"type":"pull"}`, `{"client":"c1","list":[],"type":"push"}`, strings.Repeat(" ", api.MaxJson+1)} {
			wantStatus(t, s, request(t, "c1", "POST", path, body), 400)
			wantStatus(t, s, request(t, "c2", "POST", path, body), 400)
		}
	}
	wantStatus(t, s, request(t, "c1", "POST", "/push", textOf(t, pullOf("c1", 0))), 400)
	wantStatus(t, s, request(t, "c1", "POST", "/pull", textOf(t, pushOf("c1", 2, create("b")))), 400)
	wantStatus(t, s, request(t, "c1", "POST", "/push", textOf(t, pushOf("c1", 3, create("b")))), 409)
	wantStatus(t, s, request(t, "c2", "POST", "/push", textOf(t, pushOf("c1", 3, create("b")))), 403)
	wantStatus(t, s, request(t, "c1", "POST", "/pull", textOf(t, pullOf("c1", 2))), 409)
	wantStatus(t, s, request(t, "C1", "POST", "/pull", textOf(t, pullOf("c1", 0))), 403)
	wantStatus(t, s, request(t, "c2", "POST", "/pull", textOf(t, pullOf("c1", 2))), 403)
	wantSame(t, "refused", s, was)
}

func TestP14_10Who(t *testing.T) {
	s := open(t, newDisk(t, 100000))
	body := textOf(t, pushOf("c1", 1, create("a")))
	good := bearer(t, "c1", secrets(1))
	token := strings.TrimPrefix(good.Value, "bearer ")
	post := func(h ...api.Header) api.Request {
		return api.Request{Method: "POST", Path: "/push", Headers: h, Body: []byte(body)}
	}
	for what, r := range map[string]api.Request{
		"none":           post(),
		"two":            post(good, good),
		"another header": post(api.Header{Name: "authorisation", Value: good.Value}),
		"another scheme": post(api.Header{Name: "authorization", Value: "Basic " + token}),
		"no scheme":      post(api.Header{Name: "authorization", Value: token}),
		"no token":       post(api.Header{Name: "authorization", Value: "Bearer "}),
		"cut off":        post(api.Header{Name: "authorization", Value: "Bearer " + token[:len(token)-1]}),
		"another secret": post(bearer(t, "c1", secrets(2))),
	} {
		if a := s.Handle(secrets(1), 0, r); !reflect.DeepEqual(a, api.Answer{Status: 401}) {
			t.Errorf("%s: %v", what, a)
		}
	}
	for _, x := range []struct {
		keys []api.Secret
		now  int
	}{{secrets(1), tokenUntil}, {secrets(1), tokenUntil + 1}, {secrets(2), 0}, {nil, 0}, {secrets(2, 1), 0}, {secrets(1, 2, 3, 4, 5, 6, 7, 8, 9), 0}} {
		if a := s.Handle(x.keys, x.now, post(good)); !reflect.DeepEqual(a, api.Answer{Status: 401}) {
			t.Errorf("%v at %d: %v", x.keys, x.now, a)
		}
	}
	wantStatus(t, s, post(bearer(t, "c2", secrets(1))), 403)
	wantSame(t, "refused", s, told{last: []int{0, 0, 0}})
	for _, keys := range [][]api.Secret{secrets(1), secrets(1, 2), secrets(0, 1)} {
		if a := s.Handle(keys, tokenUntil-1, post(good)); a.Status != 200 {
			t.Errorf("%v: %v", keys, a)
		}
	}
	if a := s.Handle(secrets(1), -5, post(good)); a.Status != 200 || s.Top() != 1 {
		t.Errorf("%v", a)
	}
}

func TestP14_4Poke(t *testing.T) {
	s := open(t, newDisk(t, 100000))
	const key = "dGhlIHNhbXBsZSBub25jZQ=="
	r := request(t, "c1", "GET", "/poke", "")
	wantStatus(t, s, r, 426)
	asked := []api.Header{{Name: "Upgrade", Value: "websocket"}, {Name: "Connection", Value: "Upgrade"}, {Name: "Sec-WebSocket-Version", Value: "13"}, {Name: "Sec-WebSocket-Key", Value: key}}
	r.Headers = append(r.Headers, asked...)
	want, _ := wsock.Answer(key)
	if a := s.Handle(secrets(1), 0, r); a.Status != 101 || !reflect.DeepEqual(a, want) {
		t.Errorf("%v", a)
	}
	r.Body = []byte("x")
	wantStatus(t, s, r, 426)
	r = request(t, "c1", "GET", "/poke", "")
	r.Headers = append(r.Headers, asked[:3]...)
	wantStatus(t, s, r, 426)
	wantStatus(t, s, api.Request{Method: "GET", Path: "/poke", Headers: asked}, 401)
}

// A disk without room: what was taken ahead of that stays.
func TestP14_4NoRoom(t *testing.T) {
	d := newDisk(t, 600)
	s := open(t, d)
	r := request(t, "c1", "POST", "/push", textOf(t, pushOf("c1", 1, create("a"), create("b"), create("c"), create("d"), create("e"))))
	for range 2 {
		wantStatus(t, s, r, 507)
		if s.Top() < 1 || s.Top() > 4 || s.Last("c1") != s.Top() || len(s.State()) != s.Top() {
			t.Fatalf("%v", tells(s))
		}
	}
	wantSame(t, "opened again", open(t, d), tells(s))
	m, e := s.Push(pushOf("c2", 1, create("x")))
	wantRefused(t, "without room", m, e, api.ErrFull)
	if s.Last("c2") != 0 {
		t.Error("it was taken")
	}
	// Nothing new needs no room.
	wantPushed(t, s, pushOf("c1", 1, create("a")), s.Top(), s.Top())
	was := tells(s)
	if e := s.Compact(); e != api.ErrFull {
		t.Errorf("Compact has error %d", e)
	}
	wantSame(t, "not compacted", s, was)
	wantSame(t, "not compacted, opened", open(t, d), was)
}

// dropAll is somebody who takes the files away from beneath a server.
func dropAll(d *disk.Disk) {
	for _, name := range d.List() {
		d.Drop(name)
	}
}

func TestP14_4SyncFails(t *testing.T) {
	d := newDisk(t, 100000)
	s := open(t, d)
	wantPushed(t, s, pushOf("c1", 1, create("a")), 1, 1)
	dropAll(d)
	for _, r := range []api.Request{request(t, "c1", "POST", "/push", textOf(t, pushOf("c1", 1, create("a")))), request(t, "c1", "POST", "/pull", textOf(t, pullOf("c1", 0)))} {
		wantStatus(t, s, r, 500)
	}
	m, e := s.Push(pushOf("c1", 1, create("a")))
	wantRefused(t, "Push", m, e, api.ErrFile)
	m, e = s.Pull(pullOf("c1", 0))
	wantRefused(t, "Pull", m, e, api.ErrFile)
	// What is wrong with the message itself comes first.
	m, e = s.Pull(pullOf("c1", 2))
	wantRefused(t, "Pull", m, e, api.ErrGap)
	m, e = s.Push(pushOf("c1", 3, create("a")))
	wantRefused(t, "Push", m, e, api.ErrGap)
	if a := s.Handle(secrets(1), 0, request(t, "c1", "GET", "/top", "")); a.Status != 200 {
		t.Errorf("%v", a)
	}
}

func TestP14_4Memory(t *testing.T) {
	s := open(t, newDisk(t, 100000))
	r := request(t, "c1", "POST", "/push", textOf(t, pushOf("c1", 1, create("a"))))
	a := s.Handle(secrets(1), 0, r)
	again := request(t, "c1", "POST", "/push", textOf(t, pushOf("c1", 1, create("a"))))
	if !reflect.DeepEqual(r, again) {
		t.Error("the request changed")
	}
	b := s.Handle(secrets(1), 0, r)
	clear(a.Body[:cap(a.Body)])
	clear(a.Headers[:cap(a.Headers)])
	clear(r.Body)
	clear(r.Headers)
	if b.Status != 200 || string(b.Body) != `{"last":1,"top":1,"type":"pushed"}` || b.Headers[0].Name != "content-type" {
		t.Errorf("%v", b)
	}
}
