package entry_test

import (
	"strings"
	"testing"

	"blotter/api"
	"blotter/entry"
)

func TestP11_2Keys(t *testing.T) {
	long := strings.Repeat("n", api.MaxName)
	for _, x := range []struct {
		text string
		key  entry.Key
	}{
		{"i/a", entry.Key{Kind: entry.AnIssue, Issue: "a"}},
		{"i/" + long, entry.Key{Kind: entry.AnIssue, Issue: long}},
		{"c/a/b", entry.Key{Kind: entry.AComment, Issue: "a", Name: "b"}},
		{"c/" + long + "/" + long, entry.Key{Kind: entry.AComment, Issue: long, Name: long}},
		{"l/a/b", entry.Key{Kind: entry.ALabel, Issue: "a", Name: "b"}},
		{"l/./-_", entry.Key{Kind: entry.ALabel, Issue: ".", Name: "-_"}},
	} {
		if got := entry.ReadKey(x.text); got != x.key {
			t.Errorf("ReadKey(%q) is %v", x.text, got)
		}
		if got := x.key.Text(); got != x.text {
			t.Errorf("the text of %v is %q", x.key, got)
		}
	}
}

func TestP11_2OtherKeys(t *testing.T) {
	long := strings.Repeat("n", api.MaxName+1)
	for _, s := range []string{
		"", "/", "i", "i/", "i/a/", "i/a/b", "i/ ", "ia", "I/a", "i//a", "/i/a", " i/a", "ii/a", "i/" + long, "i/é", "i/a ",
		"c", "c/", "c/a", "c/a/", "c//", "c//b", "c/a/b/", "c/a/b/c", "c/a//b", "C/a/b", "c/ /b", "c/a/ ", "c/" + long + "/b", "c/a/" + long, "ca/b",
		"l", "l/", "l/a", "l/a/", "l//b", "l/a/b/c", "l/a/\xff", "l/" + long + "/b", "l/a/" + long,
		"x/a", "x/a/b", "m/a/b",
	} {
		if got := entry.ReadKey(s); got != (entry.Key{}) {
			t.Errorf("ReadKey(%q) is %v", s, got)
		}
	}
	if got := (entry.Key{Issue: "a"}).Text(); got != "" {
		t.Errorf("a key of no kind is %q", got)
	}
	if entry.Marked != "1" {
		t.Errorf("a label's value is %q", entry.Marked)
	}
}

func TestP11_2IssueValues(t *testing.T) {
	words := strings.Repeat("\x01", api.MaxText)
	for _, x := range []entry.Issue{
		{"", "open", "first"}, {"x", "closed", "t"}, {strings.Repeat("o", api.MaxName), "open", words}, {"", "open", "a\"b\\c\nd é 😀 \x7f"},
	} {
		value := x.Print()
		if got, ok := entry.ReadIssue(value); !ok || got != x {
			t.Errorf("%v: %v, %v", x, got, ok)
		}
		if len(value) > api.MaxValue {
			t.Errorf("%v: %d bytes", x, len(value))
		}
		for _, other := range []string{value + " ", " " + value, value + "\n", value[1:], value[:len(value)-1]} {
			if got, ok := entry.ReadIssue(other); ok || got != (entry.Issue{}) {
				t.Errorf("%q: %v, %v", other, got, ok)
			}
		}
	}
	if got := (entry.Issue{Status: entry.Open, Title: "first"}).Print(); got != `{"owner":"","status":"open","title":"first"}` {
		t.Errorf("printed %s", got)
	}
}

func TestP11_2OtherIssueValues(t *testing.T) {
	for _, s := range []string{
		"", "1", "null", "[]", "{}", `"owner"`,
		`{"owner":"","status":"open","title":""}`,
		`{"owner":"","status":"open","title":"` + strings.Repeat("t", api.MaxText+1) + `"}`,
		`{"owner":"","status":"shut","title":"t"}`, `{"owner":"","status":"","title":"t"}`, `{"owner":"","status":"Open","title":"t"}`,
		`{"owner":"a b","status":"open","title":"t"}`, `{"owner":"` + strings.Repeat("o", api.MaxName+1) + `","status":"open","title":"t"}`,
		`{"owner":"","status":"open","title":1}`, `{"owner":null,"status":"open","title":"t"}`, `{"owner":1,"status":"open","title":"t"}`, `{"owner":[],"status":"open","title":"t"}`, `{"owner":"","status":true,"title":"t"}`,
		`{"owner":"","status":"open"}`, `{"status":"open","title":"t"}`, `{"owner":"","title":"t"}`,
		`{"owner":"","status":"open","title":"t","x":""}`, `{"a":1,"owner":"","status":"open","title":"t"}`,
		`{"status":"open","owner":"","title":"t"}`, `{"title":"t","owner":"","status":"open"}`,
		`{"owner": "","status":"open","title":"t"}`, `{"owner":"","status":"open","title":"\u0074"}`, `{"owner":"","status":"open","title":"\n"}`, `{"owner":"","status":"open","title":"\u000A"}`, `{"owner":"","status":"open","title":"\/"}`,
		`{"owner":"","status":"open","title":"t","title":"t"}`, "{\"owner\":\"\",\"status\":\"open\",\"title\":\"\xff\"}",
		`{"Owner":"","status":"open","title":"t"}`, `[{"owner":"","status":"open","title":"t"}]`, `{"by":"x","text":"t"}`,
		`{"owner":"","status":"open","title":"` + strings.Repeat("t", api.MaxJson) + `"}`,
	} {
		if got, ok := entry.ReadIssue(s); ok || got != (entry.Issue{}) {
			t.Errorf("%.80q: %v, %v", s, got, ok)
		}
	}
}

func TestP11_2CommentValues(t *testing.T) {
	words := strings.Repeat("\x1f", api.MaxText)
	for _, x := range []entry.Comment{{"x", "hi"}, {strings.Repeat("b", api.MaxName), words}, {"-", "\"\\é\t"}} {
		value := x.Print()
		if got, ok := entry.ReadComment(value); !ok || got != x {
			t.Errorf("%v: %v, %v", x, got, ok)
		}
		if len(value) > api.MaxValue {
			t.Errorf("%v: %d bytes", x, len(value))
		}
	}
	if got := (entry.Comment{By: "x", Text: "hi"}).Print(); got != `{"by":"x","text":"hi"}` {
		t.Errorf("printed %s", got)
	}
	for _, s := range []string{
		"", "1", "{}", "[]", `{"by":"","text":"t"}`, `{"by":"a b","text":"t"}`, `{"by":"x","text":""}`, `{"by":"x","text":"` + strings.Repeat("t", api.MaxText+1) + `"}`,
		`{"by":"x"}`, `{"text":"t"}`, `{"text":"t","by":"x"}`, `{"by":"x","text":"t","x":1}`, `{"by":"x", "text":"t"}`, `{"by":"x","text":"\u0074"}`, `{"by":1,"text":"t"}`, `{"by":"x","text":null}`, `{"owner":"","status":"open","title":"t"}`,
	} {
		if got, ok := entry.ReadComment(s); ok || got != (entry.Comment{}) {
			t.Errorf("%.80q: %v, %v", s, got, ok)
		}
	}
}

func TestP11_1Words(t *testing.T) {
	for s, want := range map[string]bool{
		"": false, "a": true, " ": true, "\x00": true, "é": true, "\xff": false, "a\xed\xa0\x80": false,
		strings.Repeat("a", api.MaxText): true, strings.Repeat("a", api.MaxText+1): false,
		strings.Repeat("é", api.MaxText/2): true, strings.Repeat("é", api.MaxText/2) + "a": false, strings.Repeat("a", api.MaxText-1) + "é": false,
	} {
		if got := entry.IsWords(s); got != want {
			t.Errorf("IsWords(%.40q): %v", s, got)
		}
	}
	for s, want := range map[string]bool{"": false, "open": true, "closed": true, "Open": false, "open ": false, "shut": false} {
		if got := entry.IsStatus(s); got != want {
			t.Errorf("IsStatus(%q): %v", s, got)
		}
	}
	for s, want := range map[string]bool{"": true, "a": true, "a b": false, strings.Repeat("a", api.MaxName): true, strings.Repeat("a", api.MaxName+1): false} {
		if got := entry.IsNameOrNone(s); got != want {
			t.Errorf("IsNameOrNone(%q): %v", s, got)
		}
	}
}
