package console

import (
	"crypto/sha256"
	"strconv"
	"strings"
	"testing"

	"blotter/api"
	"blotter/authtok"
	"blotter/msg"
	"blotter/platform"
	"blotter/wire"
)

// scene is lines, of each of which the report's line stands behind an arrow.
type scene string

// wantScene plays a scene, and holds its report against what stands in it.
func wantScene(t *testing.T, s scene) {
	t.Helper()
	var text, want []string
	for _, l := range strings.Split(string(s), "\n") {
		line, answer, ok := strings.Cut(strings.TrimSpace(l), " => ")
		if !ok {
			continue
		}
		text, want = append(text, line), append(want, answer)
	}
	report, at, e := Run(strings.Join(text, "\n"))
	if at != 0 || e != api.OK {
		t.Fatalf("Run: %d, %d", at, e)
	}
	if report == "" || report[len(report)-1] != '\n' {
		t.Fatalf("the report ends otherwise than with a byte 10: %q", report)
	}
	got := strings.Split(report[:len(report)-1], "\n")
	if len(got) != len(want) {
		t.Fatalf("the report has %d lines, want %d: %q", len(got), len(want), report)
	}
	for i := range got {
		if got[i] != want[i] {
			t.Errorf("line %d, %q: %q, want %q", i+1, text[i], got[i], want[i])
		}
	}
}

func TestP17_2Example(t *testing.T) {
	wantScene(t, `
		world 1 100000 => ok
		create 1 a "first" => ok
		round 2 => ok
		list 0 - - - - 9 "" => list a
		show 1 a => issue a open "" "first"
		top => top 1
	`)
}

func TestP17_2Nothing(t *testing.T) {
	for _, s := range []string{"", "\n", "# only words", "\n\n#\n"} {
		if report, at, e := Run(s); report != "" || at != 0 || e != api.OK {
			t.Errorf("Run(%q): %q, %d, %d", s, report, at, e)
		}
	}
}

func TestP17_2NoWorld(t *testing.T) {
	for _, l := range goodLines() {
		want := "error 8\n"
		if strings.HasPrefix(l, "world") {
			want = "ok\n"
		}
		if report, at, e := Run(l); report != want || at != 0 || e != api.OK {
			t.Errorf("%q without a world: %q, %d, %d", l, report, at, e)
		}
	}
	// Even where a line would have another error as well.
	wantScene(t, `
		list 99 nowhere - - - 0 "" => error 8
		show 9 - => error 8
		round 0 => error 8
		status 1 - - => error 8
		world 9 100000 => error 1
		top => error 8
	`)
}

func TestP17_2World(t *testing.T) {
	wantScene(t, `
		world 0 100000 => error 1
		world 9 100000 => error 1
		world 1 16777217 => error 1
		world 8 16777216 => ok
		create 8 a "x" => ok
		create 9 b "x" => error 160
		world 1 999999999 => error 1
		world 0 1 => error 1
		show 8 a => issue a open "" "x"
		world 2 100000 => ok
		show 8 a => error 161
		show 2 a => error 111
		create 3 a "x" => error 160
		create 2 a "y" => ok
		show 2 a => issue a open "" "y"
		world 2 10 => ok
		create 1 a "y" => error 7
		top => top 0
	`)
}

func TestP17_2Mutations(t *testing.T) {
	wantScene(t, `
		world 2 100000 => ok
		create 1 a "one" => ok
		create 1 a "one" => error 112
		create 1 - "one" => error 110
		create 1 b "" => error 110
		create 0 b "x" => error 160
		create 15 b "x" => error 160
		create 999999999 b "x" => error 160
		show 1 a => issue a open "" "one"
		show 2 a => error 111
		title 1 a "two \"words\" \\ \u000a\u0001\t/é\ud83d\ude00" => ok
		show 1 a => issue a open "" "two \"words\" \\ \u000a\u0001\u0009/é😀"
		title 1 a "two" => ok
		title 1 b "two" => error 111
		assign 1 a bob => ok
		show 1 a => issue a open "bob" "two"
		assign 1 a - => ok
		show 1 a => issue a open "" "two"
		assign 1 a al => ok
		label 1 a ui => ok
		label 1 a bug => ok
		label 1 a bug => error 112
		label 1 a - => error 110
		unlabel 1 a no => error 111
		show 1 a => issue a open "al" "two" #bug #ui
		comment 1 a d "last words" => ok
		comment 1 a c "first \"words\"" => ok
		comment 1 a c "again" => error 112
		comment 1 a - "again" => error 110
		edit 1 a d "more words" => ok
		edit 1 a e "more words" => error 111
		show 1 a => issue a open "al" "two" #bug #ui c c1 "first \"words\"" d c1 "more words"
		unlabel 1 a ui => ok
		uncomment 1 a c => ok
		uncomment 1 a c => error 111
		show 1 a => issue a open "al" "two" #bug d c1 "more words"
		status 1 a shut => error 110
		status 1 a - => error 110
		status 1 a closed => ok
		comment 1 a f "no" => error 114
		show 1 a => issue a closed "al" "two" #bug d c1 "more words"
		round 9 => ok
		edit 2 a d "mine" => error 114
		status 2 a open => ok
		edit 2 a d "mine" => error 113
		show 2 a => issue a open "al" "two" #bug d c1 "more words"
		delete 2 - => error 110
		delete 2 a => ok
		show 2 a => error 111
		show 1 a => issue a closed "al" "two" #bug d c1 "more words"
		round 9 => ok
		show 1 a => error 111
		show 0 a => error 111
	`)
}

// TestP17_2Fields holds each word's mutation against what chapter 11 says of its fields.
func TestP17_2Fields(t *testing.T) {
	for s, want := range map[string]api.Mutation{
		`create 1 a "x"`:    {Kind: api.KCreate, Issue: "a", Text: "x"},
		`title 1 a "x"`:     {Kind: api.KTitle, Issue: "a", Text: "x"},
		`status 1 a b`:      {Kind: api.KStatus, Issue: "a", Text: "b"},
		`assign 1 a b`:      {Kind: api.KAssign, Issue: "a", Name: "b"},
		`comment 1 a b "x"`: {Kind: api.KComment, Issue: "a", Name: "b", Text: "x"},
		`edit 1 a b "x"`:    {Kind: api.KEdit, Issue: "a", Name: "b", Text: "x"},
		`uncomment 1 a b`:   {Kind: api.KUncomment, Issue: "a", Name: "b"},
		`label 1 a b`:       {Kind: api.KLabel, Issue: "a", Name: "b"},
		`unlabel 1 a b`:     {Kind: api.KUnlabel, Issue: "a", Name: "b"},
		`delete 1 a`:        {Kind: api.KDelete, Issue: "a"},
		`delete 1 -`:        {Kind: api.KDelete},
	} {
		l, ok := read(s)
		if !ok {
			t.Fatalf("%q is no line", s)
		}
		if step := stepOf(l); step.Kind != api.SMutate || step.Node != 1 || step.M != want {
			t.Errorf("%q: %+v", s, step)
		}
	}
}

func TestP17_2Full(t *testing.T) {
	var s strings.Builder
	s.WriteString("world 1 100000 => ok\n")
	for i := range api.MaxPending {
		s.WriteString(`create 1 a` + strconv.Itoa(i) + " \"x\" => ok\n")
	}
	s.WriteString(`
		create 1 b "x" => error 7
		show 1 b => error 111
		round 30 => ok
		create 1 b "x" => ok
		top => top 32`)
	wantScene(t, scene(s.String()))
}

func TestP17_2Machines(t *testing.T) {
	wantScene(t, `
		world 2 100000 => ok
		act 0 => error 160
		act 3 => error 160
		watch 0 => error 160
		watch 3 => error 160
		start 3 => error 160
		start 15 => error 160
		crash 3 - 0 => error 160
		compact 3 => error 160
		start 0 => error 161
		start 1 => error 161
		crash 0 - 0 => ok
		crash 0 - 0 => error 161
		compact 0 => error 161
		dial => error 161
		create 1 a "x" => ok
		act 1 => ok
		watch 1 => ok
		crash 1 1 0 => ok
		act 1 => error 161
		watch 1 => error 161
		create 1 b "x" => error 161
		show 1 a => error 161
		list 1 - - - - 9 "" => error 161
		show 0 a => error 161
		list 0 - - - - 9 "" => error 161
		list 3 - - - - 9 "" => error 161
		show 15 a => error 161
		show 999999999 a => error 161
		top => top 0
		log => log 0
		start 1 => ok
		show 1 a => issue a open "" "x"
		start 0 => ok
		compact 0 => ok
		compact 1 => ok
		round 4 => ok
		show 2 a => issue a open "" "x"
		log => log 1 c1.1
		crash 0 - 0 => ok
		log => log 0
		start 0 => ok
		log => log 1 c1.1
	`)
}

func TestP17_2Connections(t *testing.T) {
	request := wire.Spell([]byte("GET /no HTTP/1.1\r\nhost: a\r\n\r\n"))
	wantScene(t, scene(`
		world 1 100000 => ok
		carry 1 0 1 => error 30
		cut 1 => error 30
		cut 0 => error 30
		forge 1 `+request+` => error 30
		dial => ok
		carry 2 0 1 => error 30
		carry 1 1 1 => error 1
		carry 1 0 0 => ok
		carry 1 0 999999999 => ok
		forge 1 `+request+` => ok
		forge 1 `+request+` => ok
		forge 2 `+request+` => error 30
		carry 1 0 20 => ok
		carry 1 0 131072 => ok
		carry 1 15 131072 => ok
		cut 1 => ok
		cut 1 => error 30
		create 1 a "x" => ok
		act 1 => ok
		forge 2 `+request+` => error 1
		carry 2 0 10 => ok
		top => top 0
		carry 2 0 999999999 => ok
		top => top 1
		log => log 1 c1.1
		list 1 - - - - 9 "" => list a
		carry 2 1 999999999 => ok
		rotate => ok
		rotate => ok
		round 1 => ok
		round 1 => ok
		create 1 b "x" => ok
		round 4 => ok
		log => log 2 c1.1 c1.2
	`))
}

// TestP17_2Most lets all bytes of a push but the last one arrive, and then that.
func TestP17_2Most(t *testing.T) {
	w, _ := platform.New(1, 100000)
	w.Step(api.Step{Kind: api.SMutate, Node: 1, M: api.Mutation{Kind: api.KCreate, Issue: "a", Text: "x"}})
	w.Step(api.Step{Kind: api.SAct, Node: 1})
	n, e := w.Waiting(1, 0)
	if n < 2 || e != api.OK {
		t.Fatal("nothing is on the way to the server:", n, e)
	}
	wantScene(t, scene(`
		world 1 100000 => ok
		create 1 a "x" => ok
		act 1 => ok
		carry 1 0 `+strconv.Itoa(n-1)+` => ok
		top => top 0
		carry 1 0 0 => ok
		top => top 0
		carry 1 0 1 => ok
		top => top 1
	`))
}

// stolenPush is the bytes of a push by client 1's name, of somebody who knows the secret 1.
func stolenPush(t *testing.T) []byte {
	key := sha256.Sum256([]byte("secret 1"))
	token, e := authtok.Make([]api.Secret{{ID: 1, Bytes: key[:]}}, api.Claim{Client: "c1", Group: "g", Until: 1})
	m := api.Mutation{Kind: api.KCreate, Issue: "stolen", Text: "x"}
	body, e2 := msg.Write(api.Msg{Kind: api.MPush, Client: "c1", List: []api.Logged{{Client: "c1", ID: 1, M: m}}})
	if e != api.OK || e2 != api.OK {
		t.Fatal(e, e2)
	}
	return []byte("POST /push HTTP/1.1\r\nhost: server\r\nauthorization: Bearer " + token + "\r\ncontent-length: " + strconv.Itoa(len(body)) + "\r\n\r\n" + body)
}

func TestP17_2Forge(t *testing.T) {
	b := stolenPush(t)
	wantScene(t, scene(`
		world 1 100000 => ok
		dial => ok
		forge 1 `+wire.Spell(b[:50])+` => ok
		carry 1 0 9999 => ok
		forge 1 `+wire.Spell(b[50:])+` => ok
		top => top 0
		carry 1 0 9999 => ok
		log => log 1 c1.1
		show 0 stolen => issue stolen open "" "x"
	`))
	wantScene(t, scene(`
		world 1 100000 => ok
		dial => ok
		rotate => ok
		rotate => ok
		forge 1 `+wire.Spell(b)+` => ok
		carry 1 0 9999 => ok
		log => log 0
	`))
	wantScene(t, scene(`
		world 1 100000 => ok
		dial => ok
		rotate => ok
		pass 1 => ok
		forge 1 `+wire.Spell(b)+` => ok
		carry 1 0 9999 => ok
		log => log 0
	`))
}

func TestP17_2Crash(t *testing.T) {
	// A pull leaves what it brought pending on a client's disk; what a crash keeps of it is seen.
	beginning := `
		world 2 100000 => ok
		create 1 a "x" => ok
		round 1 => ok
		act 2 => ok
		round 2 => ok
		show 2 a => issue a open "" "x"
	`
	const kept = `issue a open "" "x"`
	for how, want := range map[string]string{
		"- 0": "error 111", "0 0": "error 111", "1 0": kept, "1 1": "error 111", strings.Repeat("1", 64) + " 0": kept,
	} {
		wantScene(t, scene(beginning+`
			crash 2 `+how+` => ok
			start 2 => ok
			show 2 a => `+want))
	}
}

func TestP17_2Time(t *testing.T) {
	// So many milliseconds are left up to 2^40 behind as many passes as go.
	left := api.MaxTime % 999999999
	passes := strings.Repeat("pass 999999999\n", api.MaxTime/999999999)
	for n, rounds := range map[int]int{0: 0, 1: 1, 7: 7, 99: 99, 100: 100, 101: 100, 999999999: 100} {
		text := "world 1 100000\n" + passes + "round " + strconv.Itoa(n) + "\n"
		rest := left - rounds*25600
		text += "pass " + strconv.Itoa(rest+1) + "\npass " + strconv.Itoa(rest) + "\npass 1\npass 0\n"
		want := strings.Repeat("ok\n", 2+api.MaxTime/999999999) + "error 160\nok\nerror 160\nok\n"
		if report, at, e := Run(text); report != want || at != 0 || e != api.OK {
			t.Errorf("round %d: %q, %d, %d", n, report[max(0, len(report)-40):], at, e)
		}
	}
}

func TestP17_2Lists(t *testing.T) {
	wantScene(t, scene(`
		world 1 100000 => ok
		list 0 - - - - 1 "" => list
		create 1 b "some words" => ok
		create 1 a "words" => ok
		create 1 d "other" => ok
		create 1 c "x" => ok
		status 1 c closed => ok
		status 1 a closed => ok
		assign 1 a bob => ok
		assign 1 d bob => ok
		label 1 b bug => ok
		label 1 d bug => ok
		list 0 - - - - 9 "" => list
		list 1 - - - - 9 "" => list a b c d
		list 1 - - - - 4 "" => list a b c d
		list 1 - - - - 3 "" => list a b c ..
		list 1 - - - - 1 "" => list a ..
		list 1 - - - b 1 "" => list c ..
		list 1 - - - c 1 "" => list d
		list 1 - - - d 1 "" => list
		list 1 open - - - 9 "" => list b d
		list 1 closed - - - 9 "" => list a c
		list 1 - bob - - 9 "" => list a d
		list 1 - - bug - 9 "" => list b d
		list 1 - bob bug - 9 "" => list d
		list 1 - - - - 9 "words" => list a b
		list 1 - - - - 9 "e w" => list b
		list 1 - - - a 100 "" => list b c d
		list 1 shut - - - 9 "" => error 1
		list 1 - - - - 0 "" => error 1
		list 1 - - - - 101 "" => error 1
		list 1 - - - - 0 "`+strings.Repeat("x", 513)+`" => error 4
		list 1 - - - - 1 "`+strings.Repeat("x", 512)+`" => list
		list 2 shut - - - 0 "" => error 161
	`))
}

func TestP17_2Log(t *testing.T) {
	wantScene(t, `
		world 3 100000 => ok
		log => log 0
		top => top 0
		create 3 a "x" => ok
		round 2 => ok
		create 1 a "y" => error 112
		label 2 a b => ok
		label 2 a c => ok
		label 1 a b => ok
		log => log 1 c3.1
		round 6 => ok
		log => log 4 c3.1 c1.1 c2.1 c2.2
		top => top 4
		show 0 a => issue a open "" "x" #b #c
		show 3 a => issue a open "" "x" #b #c
	`)
}

func TestP17_2Pokes(t *testing.T) {
	// Client 2 failed, and waits; the poke lets it ask at once.
	wantScene(t, `
		world 2 100000 => ok
		act 2 => ok
		cut 1 => ok
		act 2 => ok
		watch 2 => ok
		carry 2 0 9999 => ok
		carry 2 2 9999 => ok
		create 1 a "x" => ok
		act 1 => ok
		carry 3 0 9999 => ok
		act 2 => ok
		cut 4 => error 30
		carry 2 2 9999 => ok
		act 2 => ok
		carry 4 0 9999 => ok
		carry 4 2 9999 => ok
		show 2 a => issue a open "" "x"
	`)
}
