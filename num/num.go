// Package num is layer 1: see shared/doc/01-num.md.
package num

import (
	"strconv"
	"strings"

	"parallax/api"
)

// Add is a sum.
func Add(a, b int64) int64 { return a + b }

// Sub is a difference.
func Sub(a, b int64) int64 { return a - b }

// Mul is a product.
func Mul(a, b int64) int64 { return a * b }

// Neg is 0 less a number.
func Neg(a int64) int64 { return -a }

// Div is a quotient.
func Div(a, b int64) (int64, api.Errno) {
	if b == 0 {
		return 0, api.ErrZero
	}
	return a / b, api.OK
}

// Mod is what is left.
func Mod(a, b int64) (int64, api.Errno) {
	if b == 0 {
		return 0, api.ErrZero
	}
	return a % b, api.OK
}

// Text is a number's text.
func Text(n int64) string { return strconv.FormatInt(n, 10) }

// Parse is the number of a text.
func Parse(s string) (int64, api.Errno) {
	digits, below := strings.CutPrefix(s, "-")
	size, whole := magnitude(digits, most(below))
	if !whole || below && size == 0 {
		return 0, api.ErrNumber
	}
	if below {
		// 2^63 begun anew is -2^63, and so is that one's Neg.
		return Neg(int64(size)), api.OK
	}
	return int64(size), api.OK
}

// most is how far a number may lie from 0: below it there is one more.
func most(below bool) uint64 {
	if below {
		return 1 << 63
	}
	return 1<<63 - 1
}

// magnitude is the number that digits write, if it is at most limit, and whether they write one.
func magnitude(digits string, limit uint64) (uint64, bool) {
	var n uint64
	read := 0
reading:
	for read < len(digits) {
		c := digits[read]
		switch {
		case c < '0' || c > '9':
			break reading
		case read > 0 && n == 0:
			break reading // a 0 ahead of other digits
		case n > (limit-uint64(c-'0'))/10:
			break reading // the next sum would pass the limit, or even 64 bits
		}
		n = n*10 + uint64(c-'0')
		read++
	}
	if read == 0 || read < len(digits) {
		return 0, false
	}
	return n, true
}

// Join is words with a blank between any two.
func Join(l ...string) string { return strings.Join(l, " ") }

// Words are a text's.
func Words(s string) []string {
	if s == "" {
		return nil
	}
	return strings.Split(s, " ")
}
