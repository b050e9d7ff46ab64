package noughts_test

import (
	"math"
	"testing"

	"blotter/noughts"
)

// The keys of chapters 5, 14 and 15 have thirteen or nineteen digits.
func TestP15_1Noughts(t *testing.T) {
	for _, x := range []struct {
		n, digits int
		want      string
	}{
		{1, 19, "0000000000000000001"},
		{math.MaxInt, 19, "9223372036854775807"},
		{1 << 40, 13, "1099511627776"},
		{42, 13, "0000000000042"},
		{0, 1, "0"},
		{0, 2, "00"},
		{10, 2, "10"},
		{100, 2, "100"},
		{7, 0, "7"},
		{7, -1, "7"},
	} {
		if got := noughts.Ahead(x.n, x.digits); got != x.want {
			t.Errorf("%d in %d digits is %q, want %q", x.n, x.digits, got, x.want)
		}
	}
}
