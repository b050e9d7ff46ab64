// Package noughts writes numbers in so many digits, so that texts rise as the numbers do.
package noughts

import (
	"strconv"
	"strings"
)

// Ahead is a number, 0 or more, with noughts ahead, up to so many digits.
func Ahead(n, digits int) string {
	s := strconv.Itoa(n)
	return strings.Repeat("0", max(0, digits-len(s))) + s
}
