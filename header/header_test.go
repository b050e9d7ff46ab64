package header_test

import (
	"slices"
	"testing"

	"blotter/api"
	"blotter/header"
)

func TestSmall(t *testing.T) {
	for _, x := range []struct{ s, want string }{
		{"", ""},
		{"AZaz@[`{09", "azaz@[`{09"},
		{"\u212aÄ\xff", "\u212aÄ\xff"}, // the library makes the first one a k
	} {
		if got := header.Small(x.s); got != x.want {
			t.Errorf("Small(%q) = %q, want %q", x.s, got, x.want)
		}
	}
}

func TestValuesAndOnly(t *testing.T) {
	l := []api.Header{{Name: "aB", Value: "One"}, {Name: "b", Value: ""}, {Name: "Ab", Value: "two"}, {Name: "abc", Value: "x"}, {Name: " b", Value: "y"}}
	if got := header.Values(l, "AB"); !slices.Equal(got, []string{"One", "two"}) {
		t.Errorf("Values: %q", got)
	}
	for _, x := range []struct {
		name, want string
		ok         bool
	}{
		{"ab", "", false},
		{"c", "", false},
		{"", "", false},
		{"B", "", true},
		{"ABC", "x", true},
	} {
		if got, ok := header.Only(l, x.name); got != x.want || ok != x.ok {
			t.Errorf("Only(%q) = %q, %v", x.name, got, ok)
		}
	}
	if got := header.Values(nil, "a"); len(got) != 0 {
		t.Errorf("Values of none: %q", got)
	}
}
