package wsock_test

import (
	"bytes"
	"crypto/sha1"
	"encoding/base64"
	"math/rand"
	"slices"
	"strings"
	"testing"

	"blotter/api"
	"blotter/wsock"
)

const sample = "dGhlIHNhbXBsZSBub25jZQ=="

// noKeys has texts that are near a key.
var noKeys = []string{
	"", "=", "==", "short", sample[:23], sample + "=", sample + "A", " " + sample, sample + " ", sample + "\n",
	"dGhlIHNhbXBsZSBub25jZQA=", // 17 bytes
	"dGhlIHNhbXBsZSBub25jZR==", // bits behind the last byte
	"dGhlIHNhbXBsZSBub25jZf==",
	"dGhlIHNhbXBsZSBub25jZ===", // 15 bytes and a letter
	"dGhlIHNhbXBsZSBub25j====",
	"dGhlIHNhbXBsZSBub25jZQ=A",
	"dGhlIHNhbXBsZSBub25jZQA ",
	"dGhlIHNhbXBsZSBub25jZQ",
	"dGhlIHNhbXBsZSBub25jZWFi", // 18 bytes
	"-Ghl_HNhbXBsZSBub25jZQ==", // letters of another alphabet
	"--------------------_A==",
	"dGhlIHNh XBsZSBub25jZQ==",
	"dGhl=HNhbXBsZSBub25jZQ==",
	"dGhl\x00HNhbXBsZSBub25jZQ==",
	"dGhl\xffHNhbXBsZSBub25jZQ==",
	strings.Repeat("A", 1<<20),
}

func TestP9_1Accept(t *testing.T) {
	if got, e := wsock.Accept(sample); got != "s3pPLMBiTxaQ9kYGzzhZRbK+xOo=" || e != api.OK {
		t.Errorf("%q, error %d", got, e)
	}
	r := rand.New(rand.NewSource(1))
	b := make([]byte, 16)
	for range 2000 {
		r.Read(b)
		key := base64.StdEncoding.EncodeToString(b)
		d := sha1.Sum([]byte(key + "258EAFA5-E914-47DA-95CA-C5AB0DC85B11"))
		if got, e := wsock.Accept(key); got != base64.StdEncoding.EncodeToString(d[:]) || e != api.OK {
			t.Fatalf("Accept(%q) = %q, error %d", key, got, e)
		}
	}
	for _, key := range []string{strings.Repeat("A", 22) + "==", strings.Repeat("+", 21) + "w==", strings.Repeat("/", 21) + "w=="} {
		if _, e := wsock.Accept(key); e != api.OK {
			t.Errorf("Accept(%q): error %d", key, e)
		}
	}
	for _, key := range noKeys {
		if got, e := wsock.Accept(key); got != "" || e != api.ErrFrame {
			t.Errorf("Accept(%.40q) = %q, error %d", key, got, e)
		}
	}
}

// Every letter at every place of a key is taken just where the library takes it.
func TestP9_1AcceptLetters(t *testing.T) {
	strict := base64.StdEncoding.Strict()
	for i := range len(sample) {
		for c := range 256 {
			b := []byte(sample)
			b[i] = byte(c)
			want := api.ErrFrame
			if d, err := strict.DecodeString(string(b)); err == nil && len(d) == 16 && c != '\n' && c != '\r' {
				want = api.OK
			}
			if _, e := wsock.Accept(string(b)); e != want {
				t.Errorf("Accept(%q): error %d, want %d", b, e, want)
			}
		}
	}
}

// asking is a request that asks for a WebSocket, with these headers instead of its own of the same place.
func asking(change func(r *api.Request)) api.Request {
	r := api.Request{Method: "GET", Path: "/", Headers: []api.Header{
		{Name: "host", Value: "a"},
		{Name: "upgrade", Value: "websocket"},
		{Name: "connection", Value: "upgrade"},
		{Name: "sec-websocket-version", Value: "13"},
		{Name: "sec-websocket-key", Value: sample},
	}}
	change(&r)
	return r
}

func TestP9_1Asks(t *testing.T) {
	value := func(i int, s string) func(r *api.Request) {
		return func(r *api.Request) { r.Headers[i].Value = s }
	}
	also := func(name, s string) func(r *api.Request) {
		return func(r *api.Request) { r.Headers = append(r.Headers, api.Header{Name: name, Value: s}) }
	}
	without := func(i int) func(r *api.Request) {
		return func(r *api.Request) { r.Headers = slices.Delete(r.Headers, i, i+1) }
	}
	for name, change := range map[string]func(r *api.Request){
		"as it is":            func(r *api.Request) {},
		"no host":             without(0),
		"an empty body":       func(r *api.Request) { r.Body = []byte{} },
		"another path":        func(r *api.Request) { r.Path = "" },
		"capitals":            value(1, "WebSocket"),
		"all capitals":        value(2, "UPGRADE"),
		"keep-alive, too":     value(2, "keep-alive, Upgrade"),
		"many parts":          value(2, ",,a\t,\t upGrade \t,b"),
		"last part":           value(2, "a,upgrade"),
		"first part":          value(2, "upgrade,"),
		"another connection":  also("Connection", "close"),
		"the second upgrades": func(r *api.Request) { r.Headers[2].Value = "close"; also("CONNECTION", "upgrade")(r) },
		"names in capitals": func(r *api.Request) {
			for i := range r.Headers {
				r.Headers[i].Name = strings.ToUpper(r.Headers[i].Name)
			}
		},
	} {
		if key, ok := wsock.Asks(asking(change)); key != sample || !ok {
			t.Errorf("%s: %q, %v", name, key, ok)
		}
	}
	wrong := map[string]func(r *api.Request){
		"nothing":             func(r *api.Request) { *r = api.Request{} },
		"a POST":              func(r *api.Request) { r.Method = "POST" },
		"a get":               func(r *api.Request) { r.Method = "get" },
		"a body":              func(r *api.Request) { r.Body = []byte{0} },
		"no upgrade":          without(1),
		"no connection":       without(2),
		"no version":          without(3),
		"no key":              without(4),
		"two upgrades":        also("Upgrade", "websocket"),
		"another upgrade":     also("upgrade", "h2c"),
		"two versions":        also("Sec-WebSocket-Version", "13"),
		"two keys":            also("SEC-WEBSOCKET-KEY", sample),
		"a list of upgrades":  value(1, "websocket, h2c"),
		"a blank":             value(1, "websocket "),
		"a Kelvin sign":       value(1, "websoc\u212aet"),
		"empty upgrade":       value(1, ""),
		"connection close":    value(2, "close"),
		"no part":             value(2, "upgrade insecure"),
		"part of a part":      value(2, "upgrades, xupgrade"),
		"a line's end":        value(2, "upgrade\n"),
		"another separator":   value(2, "close;upgrade"),
		"an earlier version":  value(3, "8"),
		"noughts ahead":       value(3, "013"),
		"version and blank":   value(3, "13 "),
		"empty version":       value(3, ""),
		"a name with a blank": func(r *api.Request) { r.Headers[1].Name = "upgrade " },
		"a key's Kelvin sign": func(r *api.Request) { r.Headers[4].Name = "sec-websocket-\u212aey" },
	}
	for _, key := range noKeys {
		wrong["key "+key[:min(len(key), 40)]] = value(4, key)
	}
	for name, change := range wrong {
		if key, ok := wsock.Asks(asking(change)); key != "" || ok {
			t.Errorf("%s: %q, %v", name, key, ok)
		}
	}
}

func TestP9_1Answer(t *testing.T) {
	want := []api.Header{{Name: "upgrade", Value: "websocket"}, {Name: "connection", Value: "Upgrade"}, {Name: "sec-websocket-accept", Value: "s3pPLMBiTxaQ9kYGzzhZRbK+xOo="}}
	a, e := wsock.Answer(sample)
	if a.Status != 101 || !slices.Equal(a.Headers, want) || len(a.Body) != 0 || e != api.OK {
		t.Errorf("%v, error %d", a, e)
	}
	clear(a.Headers[:cap(a.Headers)])
	if a, _ := wsock.Answer(sample); !slices.Equal(a.Headers, want) {
		t.Error("two answers share their headers")
	}
	for _, key := range noKeys {
		if a, e := wsock.Answer(key); a.Status != 0 || len(a.Headers) != 0 || len(a.Body) != 0 || e != api.ErrFrame {
			t.Errorf("%.40q: %v, error %d", key, a, e)
		}
	}
}

func TestP9_1Memory(t *testing.T) {
	r := asking(func(r *api.Request) { r.Body = bytes.Repeat([]byte{7}, 3)[:0] })
	was := slices.Clone(r.Headers)
	wsock.Asks(r)
	if !slices.Equal(r.Headers, was) || !bytes.Equal(r.Body[:3], []byte{7, 7, 7}) {
		t.Error("Asks changes what it is given")
	}
}
