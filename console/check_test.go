package console

import (
	"encoding/base64"
	"math/rand"
	"regexp"
	"strconv"
	"strings"
	"testing"
	"unicode/utf8"

	"blotter/api"
)

// goodLines has of each word at least one line.
func goodLines() []string {
	return []string{
		`world 1 100000`,
		`create 1 a "first"`, `title 1 a "second"`,
		`status 1 a closed`, `status 1 a -`,
		`assign 1 a bob`, `assign 1 a -`, `uncomment 1 a c1`, `label 1 a bug`, `unlabel 1 a bug`,
		`comment 1 a c1 "some words"`, `edit 1 a c1 "other words"`,
		`delete 1 a`,
		`act 1`, `watch 1`, `start 0`, `compact 0`,
		`carry 1 0 131072`,
		`cut 1`, `pass 1000`,
		`crash 0 - 0`, `crash 0 1 0`, `crash 0 01101 3`,
		`dial`, `rotate`,
		`forge 1 R0VU`,
		`round 1`,
		`list 0 - - - - 9 ""`, `list 0 open bob bug a 9 "word"`,
		`show 0 a`,
		`top`, `log`,
	}
}

func isLine(s string) bool {
	at, e := Check(s)
	return at == 0 && e == api.OK
}

func wantLine(t *testing.T, s string, want bool) {
	t.Helper()
	at, e := Check(s)
	if want && (at != 0 || e != api.OK) {
		t.Errorf("Check(%q): %d, %d; it is a line", s, at, e)
	}
	if !want && (at != 1 || e != api.ErrLine) {
		t.Errorf("Check(%q): %d, %d; it is none", s, at, e)
	}
}

func TestP17_1Words(t *testing.T) {
	for _, s := range goodLines() {
		wantLine(t, s, true)
		for _, bad := range []string{" " + s, s + " ", s + " 1", s + " -", s + ` ""`, strings.ToUpper(s), "x" + s, s + "\r", s + "\t", "\t" + s} {
			wantLine(t, bad, false)
		}
		for i := range s {
			if s[i] != ' ' || strings.Count(s[:i], `"`) == 1 {
				continue
			}
			wantLine(t, s[:i], false)
			wantLine(t, s[:i]+" "+s[i:], false)
			wantLine(t, s[:i]+"\t"+s[i+1:], false)
			wantLine(t, s[:i]+s[i+1:], false)
			wantLine(t, s[:i]+` ~`+s[i:], false)
		}
	}
	for _, s := range []string{" ", "  ", "x", "worlds 1 1", `"top"`, "toplog", "top\r", "\r", "\t", "\x00", "-", "1", `"`, `""`, "mutate 1", "\xff", "éa", " #", " # x"} {
		wantLine(t, s, false)
	}
}

func TestP17_1Numbers(t *testing.T) {
	for s, want := range map[string]bool{
		"0": true, "9": true, "10": true, "101": true, "999999999": true, "100000000": true,
		"00": false, "01": false, "000000000": false, "1000000000": false, "0000000001": false, "9999999999": false, "18446744073709551617": false,
		"-1": false, "+1": false, "-0": false, "-": false, "+": false, "1_0": false, "0x1": false, "1.": false, "1e1": false, "a": false, `"1"`: false, "1a": false, "a1": false, "1a1": false, "\x00": false, "١": false,
	} {
		wantLine(t, "pass "+s, want)
		wantLine(t, "round "+s, want)
		wantLine(t, "carry 1 "+s+" 1", want)
		wantLine(t, "carry 1 1 "+s, want)
		wantLine(t, "crash 1 - "+s, want)
		wantLine(t, "world "+s+" 1", want)
		wantLine(t, "list "+s+` - - - - 1 ""`, want)
		wantLine(t, `list 0 - - - - `+s+` ""`, want)
	}
}

func TestP17_1Names(t *testing.T) {
	for s, want := range map[string]bool{
		"a": true, "Z": true, "0": true, ".": true, "_": true, "-": true, "--": true, "a.b-c_d": true, "..": true,
		strings.Repeat("a", 24): true, strings.Repeat("a", 25): false,
		"a/b": false, `"a"`: false, `a"b`: false, `""`: false, "a#": false, "é": false, "a\x00": false, "\xff": false, "a\t": false, `\`: false,
	} {
		wantLine(t, "show 1 "+s, want)
		wantLine(t, "delete 1 "+s, want)
		wantLine(t, "label 1 "+s+" x", want)
		wantLine(t, "label 1 x "+s, want)
		wantLine(t, "status 1 x "+s, want)
		wantLine(t, "comment 1 x "+s+` "y"`, want)
		for i := range 4 {
			w := []string{"-", "-", "-", "-"}
			w[i] = s
			wantLine(t, "list 1 "+strings.Join(w, " ")+` 1 ""`, want)
		}
	}
}

func TestP17_1Bits(t *testing.T) {
	for s, want := range map[string]bool{
		"0": true, "1": true, "-": true, "01": true, strings.Repeat("01", 32): true, strings.Repeat("0", 64): true,
		strings.Repeat("01", 32) + "1": false, strings.Repeat("1", 65): false, "2": false, "012": false, "021": false, "--": false, "-1": false, "1-": false, `"1"`: false, "x": false, "\x00": false, "\x01": false,
	} {
		wantLine(t, "crash 1 "+s+" 0", want)
	}
}

func TestP17_1Letters(t *testing.T) {
	for s, want := range map[string]bool{
		"AA": true, "__8": true, "R0VU": true, "-w": true, "_w": true, "AAAA": true, "AAAAAA": true, strings.Repeat("A", 4088): true,
		"A": false, "-": false, "AB": false, "--": false, "__9": false, "AAAAA": false, "AA==": false, "R0V+": false, "R0V/": false, "R0V=": false, `""`: false, `"AA"`: false, "A.AA": false, "éA": false,
		strings.Repeat("A", 4090): false,
	} {
		wantLine(t, "forge 1 "+s, want)
	}
	wantLine(t, "forge 1 ", false)
	wantLine(t, "forge 1", false)
	wantLine(t, "forge 1 AA AA", false)
}

func TestP17_1Texts(t *testing.T) {
	for s, want := range map[string]bool{
		`""`: true, `"a"`: true, `"a b  c"`: true, `" "`: true, `"\""`: true, `"\\"`: true, `"\\\" "`: true, `"a\" \"b"`: true, `"\u0000\n\/"`: true, `"é😀"`: true, `"\ud83d\ude00"`: true, `"#"`: true, `"'"`: true, "\"\x7f\"": true,
		// What jsonx.Parse takes around a text, where no blank ends the part.
		"\t\"a\"": true, "\r\t\"a\"\r": true, "\t\"a b\"": false, "\"a\"\t": false,
		`a`: false, `"`: false, `"a`: false, `a"`: false, `'a'`: false, `"a"b`: false, `"a""b"`: false, `"a"b"`: false, `"\"`: false, `"\\\"`: false, `"\`: false, `"a\`: false, `"\x"`: false, `"\u12"`: false, `"\ud800"`: false, `"\ude00"`: false, "\"\t\"": false, "\"\x00\"": false, "\"\x1f\"": false, "\"\xff\"": false, "\"\xc3\"": false, "\"\xed\xa0\x80\"": false,
		`1`: false, `null`: false, `true`: false, `[]`: false, `{}`: false, `["a"]`: false, `-`: false, `"a" "b"`: false, `"a" `: false, ` "a"`: false,
	} {
		wantLine(t, `create 1 a `+s, want)
		wantLine(t, `comment 1 a c `+s, want)
		wantLine(t, `list 1 - - - - 1 `+s, want)
	}
}

func TestP17_1Long(t *testing.T) {
	head := `create 1 a "`
	fill := strings.Repeat("x", api.MaxLine-len(head)-1)
	wantLine(t, head+fill+`"`, true)
	wantLine(t, head+fill+`x"`, false)
	// What says nothing may be longer.
	wantLine(t, "#"+strings.Repeat("x", api.MaxJson-1), true)
	wantLine(t, strings.Repeat("\n", api.MaxJson), true)
	for _, s := range []string{"#" + strings.Repeat("x", api.MaxJson), strings.Repeat("\n", api.MaxJson+1), strings.Repeat("x\n", api.MaxJson), strings.Repeat("top\n", 1+api.MaxJson/4)} {
		if at, e := Check(s); at != 0 || e != api.ErrLong {
			t.Errorf("Check of %d bytes: %d, %d", len(s), at, e)
		}
		if report, at, e := Run(s); report != "" || at != 0 || e != api.ErrLong {
			t.Errorf("Run of %d bytes: %q, %d, %d", len(s), report, at, e)
		}
	}
	if s := strings.Repeat("top\n", api.MaxJson/4); !isLine(s) {
		t.Error("a text of just MaxJson bytes is refused")
	}
}

func TestP17_1Place(t *testing.T) {
	for s, want := range map[string]int{
		"": 0, "\n": 0, "#": 0, "# any \xff thing\n\n#\n": 0, "top": 0, "top\n": 0, "top\n\nlog\n": 0, "#top\ntop": 0,
		"x": 1, "x\nx": 1, "top\nx\nx": 2, "\n\n\nx\ny": 4, "#\ntop\n\ncreate 1 a": 4, "# x\ncreate 1 a\n": 2, "top\n ": 2, "top\n \n": 2, "top\r\ntop": 1, "top\n\rtop": 2, "create 1 a \"\n\"": 1,
	} {
		wantNo := api.OK
		if want > 0 {
			wantNo = api.ErrLine
		}
		if at, e := Check(s); at != want || e != wantNo {
			t.Errorf("Check(%q): %d, %d; want %d", s, at, e, want)
		}
		report, at, e := Run(s)
		if at != want || e != wantNo || e != api.OK && report != "" {
			t.Errorf("Run(%q): %q, %d, %d; want %d", s, report, at, e, want)
		}
	}
	for i := range 50 {
		s := strings.Repeat("top\n", i) + "to\n" + strings.Repeat("log\nx\n", 50-i)
		if at, e := Check(s); at != i+1 || e != api.ErrLine {
			t.Errorf("line %d is none: Check says %d, %d", i+1, at, e)
		}
	}
}

// pattern is a line's form by regular expressions, which know nothing of the package's reader.
func pattern() *regexp.Regexp {
	const (
		n = `(?:0|[1-9][0-9]{0,8})`
		w = `[A-Za-z0-9._-]{1,24}`
		b = `(?:[01]{1,64}|-)`
		l = `(?P<l>[A-Za-z0-9_-]{2,})`
		c = `(?:[^"\\\x00-\x1f]|\\["\\/bfnrt]|\\u[0-9a-fA-F]{4})*`
		d = `(?:[^" \\\x00-\x1f]|\\["\\/bfnrt]|\\u[0-9a-fA-F]{4})*`
		t = `(?P<t>"` + c + `"|[\t\r]+"` + d + `"[\t\r]*)`
	)
	forms := []string{
		"world n n", "create n w t", "title n w t", "status n w w", "assign n w w", "uncomment n w w", "label n w w", "unlabel n w w", "comment n w w t", "edit n w w t", "delete n w",
		"act n", "watch n", "start n", "compact n", "carry n n n", "cut n", "pass n", "crash n b n", "dial", "rotate", "forge n l", "round n", "list n w w w w n t", "show n w", "top", "log",
	}
	kinds := map[string]string{"n": n, "w": w, "b": b, "l": l, "t": t}
	for i, f := range forms {
		parts := strings.Split(f, " ")
		for j := range parts[1:] {
			parts[j+1] = kinds[parts[j+1]]
		}
		forms[i] = strings.Join(parts, " ")
	}
	return regexp.MustCompile(`^(?:` + strings.Join(forms, "|") + `)$`)
}

// paired tells whether halves of characters stand in a JSON text in pairs alone.
func paired(text string) bool {
	high := false
	for _, s := range regexp.MustCompile(`(?s)\\u....|\\.|.`).FindAllString(text, -1) {
		code, isCode := strings.CutPrefix(s, `\u`)
		n, _ := strconv.ParseUint(code, 16, 32)
		low := isCode && n >= 0xdc00 && n <= 0xdfff
		if low != high {
			return false
		}
		high = isCode && n >= 0xd800 && n <= 0xdbff
	}
	return !high
}

func oracle(p *regexp.Regexp, s string) bool {
	if s == "" || s[0] == '#' {
		return true
	}
	if len(s) > api.MaxLine {
		return false
	}
	m := p.FindStringSubmatch(s)
	if m == nil {
		return false
	}
	for i, kind := range p.SubexpNames() {
		if kind == "l" && m[i] != "" {
			if _, err := base64.RawURLEncoding.Strict().DecodeString(m[i]); err != nil {
				return false
			}
		}
		if kind == "t" && m[i] != "" && (!utf8.ValidString(m[i]) || !paired(m[i])) {
			return false
		}
	}
	return true
}

// spoilt is a line with some bytes gone, doubled, exchanged, or more of them.
func spoilt(r *rand.Rand, s string) string {
	more := []string{" ", " ", `"`, `"`, `\`, "0", "1", "9", "-", "a", "#", "\t", "\r", "\xff", "é", `\u`, `\ud83d\ude00`, `\ud83d`, `\ude00`, `\n`, `""`, "00000000", "_", "A", "=", "\x00"}
	for range r.Intn(4) {
		i, j := r.Intn(len(s)+1), r.Intn(len(s)+1)
		i, j = min(i, j), max(i, j)
		switch r.Intn(5) {
		case 0:
			s = s[:i] + s[min(i+1, len(s)):]
		case 1:
			s = s[:j] + s[i:]
		case 2:
			s = s[:i] + more[r.Intn(len(more))] + s[min(i+1, len(s)):]
		default:
			s = s[:i] + more[r.Intn(len(more))] + s[i:]
		}
	}
	return s
}

func TestP17_1Chance(t *testing.T) {
	r := rand.New(rand.NewSource(171))
	p := pattern()
	lines, counts := goodLines(), map[bool]int{}
	for range 150000 {
		s := spoilt(r, lines[r.Intn(len(lines))])
		want := oracle(p, s)
		counts[want]++
		if isLine(s) != want {
			t.Fatalf("%q: is it a line? %v", s, want)
		}
	}
	if counts[true] < 20000 || counts[false] < 20000 {
		t.Error("chance wrote too few of one kind:", counts)
	}
}

func TestP17_1Ends(t *testing.T) {
	r := rand.New(rand.NewSource(172))
	for range 3000 {
		b := make([]byte, r.Intn(80))
		for i := range b {
			b[i] = " \n\"\\#-019aztopworldlg\xff"[r.Intn(22)]
		}
		at, e := Check(string(b))
		report, runAt, runE := Run(string(b))
		if at != runAt || e != runE || e != api.OK && report != "" {
			t.Fatalf("%q: Check %d, %d; Run %q, %d, %d", b, at, e, report, runAt, runE)
		}
	}
}
