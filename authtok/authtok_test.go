package authtok_test

import (
	"bytes"
	"crypto/hmac"
	"crypto/sha256"
	"encoding/base64"
	"math"
	"math/rand"
	"slices"
	"strings"
	"testing"

	"blotter/api"
	"blotter/authtok"
	"blotter/wire"
)

var theClaim = api.Claim{Client: "c1", Group: "g", Until: 1000}

// secret is one of so many bytes, all the same.
func secret(id int, letter string, size int) api.Secret {
	return api.Secret{ID: id, Bytes: []byte(strings.Repeat(letter, size))}
}

func theSecrets() []api.Secret { return []api.Secret{secret(1, "k", 16)} }

// tokenOf is a token of a payload as the document says it, by the library.
func tokenOf(key, payload []byte) string {
	h := hmac.New(sha256.New, key)
	h.Write(payload)
	enc := base64.RawURLEncoding
	return enc.EncodeToString(payload) + "." + enc.EncodeToString(h.Sum(nil))
}

// payload is one of any parts, whether they may be or not.
func payload(id int, client, group string, until int) []byte {
	return wire.Number(wire.Text(wire.Text(wire.Number(nil, id), client), group), until)
}

func made(t *testing.T, l []api.Secret, c api.Claim) string {
	t.Helper()
	s, e := authtok.Make(l, c)
	if e != api.OK {
		t.Fatalf("Make of %v: error %d", c, e)
	}
	return s
}

func wantRead(t *testing.T, l []api.Secret, now int, s string, c api.Claim, want api.Errno) {
	t.Helper()
	if got, e := authtok.Read(l, now, s); got != c || e != want {
		t.Errorf("Read(%.80q) at %d: %v, error %d; want %v, error %d", s, now, got, e, c, want)
	}
}

func TestP10_1Name(t *testing.T) {
	letters := "abcdefghijklmnopqrstuvwxyzABCDEFGHIJKLMNOPQRSTUVWXYZ0123456789.-_"
	for c := range 256 {
		one := string([]byte{byte(c)})
		want := strings.Contains(letters, one)
		for _, s := range []string{one, "a" + one, one + "a", "a" + one + "a", strings.Repeat("a", 23) + one} {
			if authtok.Name(s) != want {
				t.Errorf("Name(%q) is not %v", s, want)
			}
		}
	}
	for s, want := range map[string]bool{
		"":                       false,
		".":                      true,
		"-_.":                    true,
		strings.Repeat("x", 24):  true,
		strings.Repeat("x", 25):  false,
		strings.Repeat("é", 12):  false,
		strings.Repeat("x", 1e6): false,
	} {
		if authtok.Name(s) != want {
			t.Errorf("Name(%.30q) is not %v", s, want)
		}
	}
}

// badSecrets has lists of secrets that may not be.
func badSecrets() map[string][]api.Secret {
	nine := make([]api.Secret, 9)
	for i := range nine {
		nine[i] = secret(i, "k", 16)
	}
	return map[string][]api.Secret{
		"nil":                     nil,
		"none":                    {},
		"nine":                    nine,
		"below 0":                 {secret(-1, "k", 16)},
		"far below 0":             {secret(math.MinInt, "k", 16)},
		"above the most":          {secret(api.MaxTime+1, "k", 16)},
		"the greatest":            {secret(math.MaxInt, "k", 16)},
		"the greatest and more":   {secret(math.MaxInt, "k", 16), secret(1, "k", 16)},
		"twice":                   {secret(1, "k", 16), secret(1, "l", 16)},
		"falling":                 {secret(2, "k", 16), secret(1, "l", 16)},
		"falling at the end":      {secret(2, "k", 16), secret(3, "k", 16), secret(1, "l", 16)},
		"fifteen bytes":           {secret(1, "k", 15)},
		"no bytes":                {{ID: 1}},
		"sixty-five bytes":        {secret(1, "k", 65)},
		"the last one short":      {secret(1, "k", 16), secret(2, "k", 15)},
		"the first one long":      {secret(1, "k", 65), secret(2, "k", 16)},
		"the last one above most": {secret(1, "k", 16), secret(api.MaxTime+1, "k", 16)},
	}
}

func TestP10_1Check(t *testing.T) {
	eight := make([]api.Secret, 8)
	for i := range eight {
		eight[i] = secret(i*i, "k", 16+i)
	}
	for name, l := range map[string][]api.Secret{
		"one":        theSecrets(),
		"eight":      eight,
		"edges":      {secret(0, "k", 16), secret(api.MaxTime, "k", 64)},
		"same bytes": {secret(1, "k", 16), secret(2, "k", 16)},
	} {
		if e := authtok.Check(l); e != api.OK {
			t.Errorf("%s: error %d", name, e)
		}
	}
	for name, l := range badSecrets() {
		if e := authtok.Check(l); e != api.ErrSecret {
			t.Errorf("%s: error %d", name, e)
		}
	}
}

func TestP10_2Make(t *testing.T) {
	s := made(t, theSecrets(), theClaim)
	if len(s) != 13+43 || s[:13] != "AQJjMQFn-QPo." {
		t.Errorf("%q", s)
	}
	long := strings.Repeat("N", 24)
	for _, x := range []struct {
		l []api.Secret
		c api.Claim
	}{
		{theSecrets(), theClaim},
		{[]api.Secret{secret(1, "k", 16), secret(2, "l", 64)}, theClaim},
		{[]api.Secret{secret(0, "\x00", 16)}, api.Claim{Client: "-", Group: "_", Until: 0}},
		{[]api.Secret{secret(api.MaxTime, "\xff", 40)}, api.Claim{Client: long, Group: long, Until: api.MaxTime}},
		{[]api.Secret{secret(247, "a", 17)}, api.Claim{Client: "a.b", Group: "..", Until: 247}},
		{[]api.Secret{secret(248, "a", 17)}, api.Claim{Client: "same", Group: "same", Until: 248}},
	} {
		newest := x.l[len(x.l)-1]
		want := tokenOf(newest.Bytes, payload(newest.ID, x.c.Client, x.c.Group, x.c.Until))
		if got, e := authtok.Make(x.l, x.c); got != want || e != api.OK {
			t.Errorf("Make of %v: %q, error %d, want %q", x.c, got, e, want)
		}
	}
}

func TestP10_2MakeErrors(t *testing.T) {
	for name, l := range badSecrets() {
		for _, c := range []api.Claim{theClaim, {}, {Until: -1}} {
			if s, e := authtok.Make(l, c); s != "" || e != api.ErrSecret {
				t.Errorf("%s: %q, error %d", name, s, e)
			}
		}
	}
	for _, x := range []struct {
		c    api.Claim
		want api.Errno
	}{
		{api.Claim{Client: "", Group: "g", Until: 5}, api.ErrName},
		{api.Claim{Client: "c", Group: "", Until: 5}, api.ErrName},
		{api.Claim{Client: "a b", Group: "g", Until: 5}, api.ErrName},
		{api.Claim{Client: "c", Group: strings.Repeat("g", 25), Until: 5}, api.ErrName},
		{api.Claim{Client: "c", Group: "g/", Until: -1}, api.ErrName}, // ahead of ErrArg
		{api.Claim{Client: "c", Group: "g", Until: -1}, api.ErrArg},
		{api.Claim{Client: "c", Group: "g", Until: math.MinInt}, api.ErrArg},
		{api.Claim{Client: "c", Group: "g", Until: api.MaxTime + 1}, api.ErrArg},
		{api.Claim{Client: "c", Group: "g", Until: math.MaxInt}, api.ErrArg},
	} {
		if s, e := authtok.Make(theSecrets(), x.c); s != "" || e != x.want {
			t.Errorf("%v: %q, error %d, want %d", x.c, s, e, x.want)
		}
	}
}

func TestP10_3Read(t *testing.T) {
	l := theSecrets()
	s := made(t, l, theClaim)
	for _, now := range []int{math.MinInt, -1, 0, 999} {
		wantRead(t, l, now, s, theClaim, api.OK)
	}
	for _, now := range []int{1000, 1001, math.MaxInt} {
		wantRead(t, l, now, s, api.Claim{}, api.ErrExpired)
	}
	nought := api.Claim{Client: "c", Group: "g"}
	wantRead(t, l, -1, made(t, l, nought), nought, api.OK)
	wantRead(t, l, 0, made(t, l, nought), api.Claim{}, api.ErrExpired)
	for name, bad := range badSecrets() {
		for _, text := range []string{s, ""} {
			if c, e := authtok.Read(bad, 5000, text); c != (api.Claim{}) || e != api.ErrSecret {
				t.Errorf("%s: %v, error %d", name, c, e)
			}
		}
	}
}

// Each text beside the one is none, also where its time is over.
func TestP10_3Turned(t *testing.T) {
	l := theSecrets()
	s := made(t, l, theClaim)
	for i := range len(s) {
		for c := range 256 {
			if b := []byte(s); b[i] != byte(c) {
				b[i] = byte(c)
				wantRead(t, l, 5000*(c%2), string(b), api.Claim{}, api.ErrToken)
			}
		}
		wantRead(t, l, 0, s[:i], api.Claim{}, api.ErrToken)
		wantRead(t, l, 0, s[:i]+s[i+1:], api.Claim{}, api.ErrToken)
		wantRead(t, l, 0, s[:i]+"A"+s[i:], api.Claim{}, api.ErrToken)
	}
	for _, more := range []string{"A", "=", ".", " ", "\n", "\x00", "." + s[14:]} {
		wantRead(t, l, 0, s+more, api.Claim{}, api.ErrToken)
		wantRead(t, l, 0, more+s, api.Claim{}, api.ErrToken)
	}
}

// A payload that is signed well and is not one that Make writes is none.
func TestP10_3Payloads(t *testing.T) {
	l := []api.Secret{secret(0, "j", 16), secret(1, "k", 16), secret(7, "m", 64)}
	key := l[1].Bytes
	good := payload(1, "c1", "g", 1000)
	wantRead(t, l, 0, tokenOf(key, good), theClaim, api.OK)
	for name, p := range map[string][]byte{
		"nothing":             nil,
		"a nought":            {0},
		"more behind it":      append(bytes.Clone(good), 0),
		"less":                good[:len(good)-1],
		"no time":             good[:len(good)-3],
		"another form":        append(bytes.Clone(good[:len(good)-3]), 0xfa, 0, 3, 0xe8),
		"another form's ID":   append([]byte{0xf8}, good...),
		"another secret's":    payload(7, "c1", "g", 1000),
		"the ID 0":            payload(0, "c1", "g", 1000),
		"no secret's":         payload(2, "c1", "g", 1000),
		"the greatest ID":     payload(math.MaxInt, "c1", "g", 1000),
		"no client":           payload(1, "", "g", 1000),
		"no group":            payload(1, "c1", "", 1000),
		"a client of 25":      payload(1, strings.Repeat("c", 25), "g", 1000),
		"a group of 25":       payload(1, "c1", strings.Repeat("g", 25), 1000),
		"a client's name":     payload(1, "c 1", "g", 1000),
		"a group's name":      payload(1, "c1", "g\xff", 1000),
		"a time too late":     payload(1, "c1", "g", api.MaxTime+1),
		"the greatest time":   payload(1, "c1", "g", math.MaxInt),
		"a long list of 0":    make([]byte, 1000),
		"a great text's size": {1, 0xff, 0x7f, 0xff, 0xff, 0xff, 0xff, 0xff, 0xff, 0xff},
	} {
		if c, e := authtok.Read(l, 0, tokenOf(key, p)); c != (api.Claim{}) || e != api.ErrToken {
			t.Errorf("%s: %v, error %d", name, c, e)
		}
	}
	for _, s := range []string{"", ".", "..", "A", "A.A", "AQ.", ".AQ", strings.Repeat("A", 1<<20), strings.Repeat(".", 1000), "é.é"} {
		wantRead(t, l, 0, s, api.Claim{}, api.ErrToken)
	}
}

// The Mac of another secret, or one cut off, does not sign.
func TestP10_3Macs(t *testing.T) {
	l := []api.Secret{secret(1, "k", 16), secret(2, "l", 16)}
	p := payload(1, "c1", "g", 1000)
	wantRead(t, l, 0, tokenOf(l[1].Bytes, p), api.Claim{}, api.ErrToken)
	s := tokenOf(l[0].Bytes, p)
	ahead, mac, _ := strings.Cut(s, ".")
	b, _ := wire.Unspell(mac)
	for _, m := range [][]byte{nil, b[:16], b[:31], append(bytes.Clone(b), 0), make([]byte, 32)} {
		wantRead(t, l, 0, ahead+"."+wire.Spell(m), api.Claim{}, api.ErrToken)
	}
	wantRead(t, l, 0, ahead+"."+mac+"=", api.Claim{}, api.ErrToken)
	wantRead(t, l, 0, ahead+mac, api.Claim{}, api.ErrToken)
}

func TestP10_4Bearer(t *testing.T) {
	headers := func(l ...string) api.Request {
		r := api.Request{Headers: []api.Header{{Name: "host", Value: "Bearer no"}}}
		for i := 0; i < len(l); i += 2 {
			r.Headers = append(r.Headers, api.Header{Name: l[i], Value: l[i+1]})
		}
		return r
	}
	for _, x := range []struct {
		r     api.Request
		token string
		ok    bool
	}{
		{headers("authorization", "Bearer x.y"), "x.y", true},
		{headers("Authorization", "bearer x.y"), "x.y", true},
		{headers("AUTHORIZATION", "bEARER X"), "X", true},
		{headers("authorization", "Bearer é\n,=\xff"), "é\n,=\xff", true},
		{headers("authorization", "Bearer Bearer"), "Bearer", true},
		{headers(), "", false},
		{api.Request{}, "", false},
		{headers("authorization", ""), "", false},
		{headers("authorization", "Bearer"), "", false},
		{headers("authorization", "Bearer "), "", false},
		{headers("authorization", " Bearer x"), "", false},
		{headers("authorization", "Bearer  x"), "", false},
		{headers("authorization", "Bearer\tx"), "", false},
		{headers("authorization", "Bearer \tx"), "", false},
		{headers("authorization", "Bearer x "), "", false},
		{headers("authorization", "Bearer x\t"), "", false},
		{headers("authorization", "Bearer x y"), "", false},
		{headers("authorization", "Bearerx"), "", false},
		{headers("authorization", "Bearer: x"), "", false},
		{headers("authorization", "Basic x"), "", false},
		{headers("authorization", "x"), "", false},
		{headers("authorization", "Bearer x", "Authorization", "Bearer x"), "", false},
		{headers("authorization", "Bearer x", "authorization", "Basic y"), "", false},
		{headers("authorization ", "Bearer x"), "", false},
		{headers("proxy-authorization", "Bearer x"), "", false},
	} {
		if token, ok := authtok.Bearer(x.r); token != x.token || ok != x.ok {
			t.Errorf("%q: %q, %v", x.r.Headers, token, ok)
		}
	}
}

// randomSecrets is a list that may be, in which no two have the same bytes.
func randomSecrets(r *rand.Rand) []api.Secret {
	l := make([]api.Secret, 1+r.Intn(api.MaxSecrets))
	id := r.Intn(300)
	for i := range l {
		l[i] = api.Secret{ID: id, Bytes: make([]byte, 16+r.Intn(49))}
		r.Read(l[i].Bytes)
		id += 1 + r.Intn(1<<uint(r.Intn(30)))
	}
	return l
}

func randomClaim(r *rand.Rand) api.Claim {
	name := func() string {
		b := make([]byte, 1+r.Intn(24))
		for i := range b {
			b[i] = "abzAZ09.-_"[r.Intn(10)]
		}
		return string(b)
	}
	return api.Claim{Client: name(), Group: name(), Until: r.Intn(1 << uint(r.Intn(41)))}
}

func TestP10_5ThereAndBack(t *testing.T) {
	r := rand.New(rand.NewSource(1))
	for range 2000 {
		l, c := randomSecrets(r), randomClaim(r)
		s := made(t, l, c)
		for _, now := range []int{-1, c.Until - 1, r.Intn(c.Until+1) - 1} {
			wantRead(t, l, now, s, c, api.OK)
		}
		wantRead(t, l, c.Until, s, api.Claim{}, api.ErrExpired)
	}
}

func TestP10_6OneForm(t *testing.T) {
	r := rand.New(rand.NewSource(2))
	for range 2000 {
		l, c := randomSecrets(r), randomClaim(r)
		i := r.Intn(len(l))
		s := tokenOf(l[i].Bytes, payload(l[i].ID, c.Client, c.Group, c.Until))
		wantRead(t, l, -1, s, c, api.OK)
		if again := made(t, l[:i+1], c); again != s {
			t.Fatalf("%q was read, and is made as %q", s, again)
		}
	}
}

func TestP10_7Exchange(t *testing.T) {
	r := rand.New(rand.NewSource(3))
	for range 1000 {
		l, c := randomSecrets(r), randomClaim(r)
		i := r.Intn(len(l))
		s := made(t, l[:i+1], c)
		for from := range i + 1 {
			for to := i + 1; to <= len(l); to++ {
				wantRead(t, l[from:to], -1, s, c, api.OK)
			}
		}
		without := slices.Delete(slices.Clone(l), i, i+1)
		if len(without) > 0 {
			wantRead(t, without, -1, s, api.Claim{}, api.ErrToken)
		}
		// Another secret of the same ID is another secret.
		other := slices.Clone(l)
		other[i].Bytes = bytes.Repeat([]byte{1}, 16)
		wantRead(t, other, -1, s, api.Claim{}, api.ErrToken)
	}
}

func TestP10_8Time(t *testing.T) {
	r := rand.New(rand.NewSource(4))
	for range 300 {
		l, c := randomSecrets(r), randomClaim(r)
		s := made(t, l, c)
		taken := true
		for now := c.Until - 3; now < c.Until+4; now++ {
			_, e := authtok.Read(l, now, s)
			if e == api.OK && !taken {
				t.Fatalf("taken again at %d, till %d", now, c.Until)
			}
			taken = e == api.OK
		}
		if taken {
			t.Fatalf("taken behind %d", c.Until)
		}
	}
}

func TestP10_3Memory(t *testing.T) {
	l := append(make([]api.Secret, 0, 4), theSecrets()...)
	room := append(l[0].Bytes, bytes.Repeat([]byte{7}, 60)...)
	l[0].Bytes = room[:16]
	s := made(t, l, theClaim)
	authtok.Read(l, 0, s)
	authtok.Check(l)
	if string(l[0].Bytes) != strings.Repeat("k", 16) || !bytes.Equal(room[16:], bytes.Repeat([]byte{7}, 60)) || l[:2][1].Bytes != nil {
		t.Error("what is handed in was changed")
	}
	clear(room)
	wantRead(t, theSecrets(), 0, s, theClaim, api.OK)
}

func FuzzRead(f *testing.F) {
	l := []api.Secret{secret(0, "j", 16), secret(1, "k", 16)}
	s, _ := authtok.Make(l, theClaim)
	f.Add(s)
	f.Add("AQJjMQFn-QPo.")
	f.Fuzz(func(t *testing.T, s string) {
		c, e := authtok.Read(l, -1, s)
		if e != api.OK {
			if c != (api.Claim{}) || e != api.ErrToken {
				t.Fatalf("%q: %v, error %d", s, c, e)
			}
			return
		}
		one, _ := authtok.Make(l[:1], c)
		two, _ := authtok.Make(l, c)
		if s != one && s != two {
			t.Fatalf("%q was read as %v", s, c)
		}
	})
}
