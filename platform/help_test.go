package platform

import (
	"crypto/sha256"
	"reflect"
	"strconv"
	"testing"

	"blotter/api"
	"blotter/authtok"
	"blotter/client"
	"blotter/httpd"
	"blotter/msg"
	"blotter/tracker"
	"blotter/wsock"
)

const bigRoom = 1 << 20

func newWorld(t testing.TB, clients int) *World {
	t.Helper()
	return newWorldWith(t, clients, bigRoom)
}

func newWorldWith(t testing.TB, clients, room int) *World {
	t.Helper()
	w, e := New(clients, room)
	if e != api.OK {
		t.Fatalf("New has error %d", e)
	}
	return w
}

// want does a step, and holds what it answers against what it should.
func want(t testing.TB, w *World, s api.Step, e api.Errno) {
	t.Helper()
	was := tells(w)
	if got := w.Step(s); got != e {
		t.Fatalf("%+v has error %d, want %d", s, got, e)
	}
	if e != api.OK && !reflect.DeepEqual(tells(w), was) {
		t.Fatalf("%+v has error %d, and changed something", s, e)
	}
}

func do(t testing.TB, w *World, s api.Step) {
	t.Helper()
	want(t, w, s, api.OK)
}

func act(t testing.TB, w *World, node int) {
	t.Helper()
	do(t, w, api.Step{Kind: api.SAct, Node: node})
}

func watch(t testing.TB, w *World, node int) {
	t.Helper()
	do(t, w, api.Step{Kind: api.SWatch, Node: node})
}

func pass(t testing.TB, w *World, ms int) {
	t.Helper()
	do(t, w, api.Step{Kind: api.SPass, N: ms})
}

func crash(t testing.TB, w *World, node int) {
	t.Helper()
	do(t, w, api.Step{Kind: api.SCrash, Node: node})
}

func start(t testing.TB, w *World, node int) {
	t.Helper()
	do(t, w, api.Step{Kind: api.SStart, Node: node})
}

func cut(t testing.TB, w *World, conn int) {
	t.Helper()
	do(t, w, api.Step{Kind: api.SCut, Conn: conn})
}

// carry lets all that is on the way to an end arrive.
func carry(t testing.TB, w *World, conn, to int) {
	t.Helper()
	do(t, w, api.Step{Kind: api.SCarry, Conn: conn, Node: to, N: api.MaxFlight})
}

// exchange lets a client's request arrive, and its answer.
func exchange(t testing.TB, w *World, conn, node int) {
	t.Helper()
	carry(t, w, conn, 0)
	carry(t, w, conn, node)
}

func create(issue string) api.Mutation {
	return api.Mutation{Kind: api.KCreate, Issue: issue, Text: "t"}
}

func mutate(t testing.TB, w *World, node int, m api.Mutation) {
	t.Helper()
	do(t, w, api.Step{Kind: api.SMutate, Node: node, M: m})
}

// told is all that a world tells: of what does not run nothing.
type told struct {
	now     int
	running []bool
	log     []api.Logged
	state   []api.Entry
	clients []sees
	conns   []flight
}

type sees struct {
	base, pending []api.Logged
	view          []api.Entry
}

type flight struct{ conn, who, whom, there, back int }

func tells(w *World) told {
	x := told{now: w.Now(), running: []bool{w.Server() != nil}, log: w.Server().Log(0, 1<<30), state: w.Server().State()}
	for i := range w.Clients() {
		c := w.Client(i + 1)
		x.running = append(x.running, c != nil)
		x.clients = append(x.clients, seenBy(c))
	}
	for _, conn := range w.Conns() {
		f := flight{conn: conn}
		f.who, f.whom, _ = w.Ends(conn)
		f.there, _ = w.Waiting(conn, f.whom)
		f.back, _ = w.Waiting(conn, f.who)
		x.conns = append(x.conns, f)
	}
	return x
}

func seenBy(c *client.Client) sees {
	return sees{base: c.Base(), pending: c.Pending(), view: c.View()}
}

// leadsTo is what mutations, one behind the other, make of nothing.
func leadsTo(lists ...[]api.Logged) []api.Entry {
	var state []api.Entry
	for _, list := range lists {
		for _, x := range list {
			state, _ = tracker.Do(state, x.Client, x.M)
		}
	}
	return state
}

// theSecret is the one of a number as the document says it.
func theSecret(n int) api.Secret {
	sum := sha256.Sum256([]byte("secret " + strconv.Itoa(n)))
	return api.Secret{ID: n, Bytes: sum[:]}
}

// tokenOf is a client's, signed by the secret of a number.
func tokenOf(t testing.TB, name string, n int) string {
	t.Helper()
	return tokenUntil(t, name, n, 1<<40)
}

func tokenUntil(t testing.TB, name string, n, until int) string {
	t.Helper()
	token, e := authtok.Make([]api.Secret{theSecret(n)}, api.Claim{Client: name, Group: "g", Until: until})
	if e != api.OK {
		t.Fatal(e)
	}
	return token
}

func textOf(t testing.TB, m api.Msg) string {
	t.Helper()
	s, e := msg.Write(m)
	if e != api.OK {
		t.Fatalf("%v has error %d", m, e)
	}
	return s
}

// post is the bytes of a request with a body, as clients write it.
func post(path, token, body string) string {
	return "POST " + path + " HTTP/1.1\r\nhost: server\r\nauthorization: Bearer " + token +
		"\r\ncontent-length: " + strconv.Itoa(len(body)) + "\r\n\r\n" + body
}

// get is the bytes of a request without one, with these lines more.
func get(path, token string, lines ...string) string {
	s := "GET " + path + " HTTP/1.1\r\nhost: server\r\nauthorization: Bearer " + token + "\r\n"
	for _, line := range lines {
		s += line + "\r\n"
	}
	return s + "\r\n"
}

// getPoke is the bytes by which a client asks to be poked.
func getPoke(token string) string {
	return get("/poke", token, "upgrade: websocket", "connection: Upgrade", "sec-websocket-version: 13", "sec-websocket-key: AAAAAAAAAAAAAAAAAAAAAA==")
}

// welcome is the answer to that.
const welcome = "HTTP/1.1 101 Switching Protocols\r\nupgrade: websocket\r\nconnection: Upgrade\r\nsec-websocket-accept: ICX+Yqv66kxgM0FcWaLWlFLwTAI=\r\n\r\n"

// ok is the bytes of an answer with a message.
func ok(body string) string {
	return "HTTP/1.1 200 OK\r\ncontent-type: application/json\r\ncontent-length: " + strconv.Itoa(len(body)) + "\r\n\r\n" + body
}

// refusal is the bytes of an answer that is a status alone.
func refusal(status int) string {
	return "HTTP/1.1 " + strconv.Itoa(status) + " " + httpd.Reason(status) + "\r\ncontent-length: 0\r\n\r\n"
}

func pushOf(name string, first int, l ...api.Mutation) api.Msg {
	m := api.Msg{Kind: api.MPush, Client: name}
	for i, x := range l {
		m.List = append(m.List, api.Logged{Client: name, ID: first + i, M: x})
	}
	return m
}

// frame is a frame's bytes.
func frame(t testing.TB, op int, load string, mask ...byte) string {
	t.Helper()
	b, e := wsock.Write(api.Frame{Fin: true, Op: op, Load: []byte(load)}, mask)
	if e != api.OK {
		t.Fatal(e)
	}
	return string(b)
}

// masked is a frame's bytes as a server wants them.
func masked(t testing.TB, op int, load string) string {
	t.Helper()
	return frame(t, op, load, 9, 8, 7, 6)
}

// sent takes off the way what was sent to an end: nobody else gets it.
func sent(t testing.TB, w *World, conn, to int) string {
	t.Helper()
	b, e := w.net.Carry(conn, to, api.MaxFlight)
	if e != api.OK {
		t.Fatalf("connection %d has error %d", conn, e)
	}
	return string(b)
}

func wantSent(t testing.TB, w *World, conn, to int, text string) {
	t.Helper()
	if got := sent(t, w, conn, to); got != text {
		t.Fatalf("on the way to %d is %q, want %q", to, got, text)
	}
}

// isCut tells whether a connection is gone.
func isCut(w *World, conn int) bool {
	_, _, e := w.Ends(conn)
	return e == api.ErrConn
}

// dial lets somebody else dial: the connection's number.
func dial(t testing.TB, w *World) int {
	t.Helper()
	do(t, w, api.Step{Kind: api.SDial})
	l := w.Conns()
	return l[len(l)-1]
}

// forge lets somebody else's bytes arrive.
func forge(t testing.TB, w *World, conn int, text string) {
	t.Helper()
	do(t, w, api.Step{Kind: api.SForge, Conn: conn, Bytes: []byte(text)})
	carry(t, w, conn, 0)
}
