// Package usec is layer 1: microseconds that fit. See shared/doc/01-usec.md.
package usec

import (
	"math"
	"math/bits"

	"clepsydra/api"
)

// Add is a sum; false: it does not fit.
func Add(a, b int64) (int64, bool) {
	sum := a + b
	// Only numbers of one sign have a sum that does not fit; gone round, it has the other sign.
	if sign((a^sum)&(b^sum)) == 1 {
		return 0, false
	}
	return sum, true
}

// Sub is a difference; false: it does not fit.
func Sub(a, b int64) (int64, bool) {
	difference := a - b
	// Not Add of -b: -2^63 has no opposite. Only numbers of two signs may go round, away from a's sign.
	if sign((a^b)&(a^difference)) == 1 {
		return 0, false
	}
	return difference, true
}

// Mul is a product; false: it does not fit.
func Mul(a, b int64) (int64, bool) {
	minus := sign(a ^ b)
	high, low := bits.Mul64(size(a), size(b))
	// There is room for one more below 0 than above it.
	if high != 0 || low > math.MaxInt64+minus {
		return 0, false
	}
	if minus == 1 {
		low = -low
	}
	return int64(low), true
}

// Div is a quotient, rounded down, and what is left; false: by 0, or it does not fit.
func Div(a, b int64) (q, r int64, ok bool) {
	if b == 0 || (a == math.MinInt64 && b == -1) {
		return 0, 0, false
	}
	q, r = a/b, a%b
	// The language rounds towards 0: what is left has a's sign then, where it should have b's.
	if r != 0 && sign(r^b) == 1 {
		q, r = q-1, r+b
	}
	return q, r, true
}

// Clamp is a number, brought between two others.
func Clamp(a, low, high int64) int64 {
	// Not min and max: low goes first, also where it is above high.
	if a < low {
		return low
	}
	if a > high {
		return high
	}
	return a
}

// Later is a time and a span, at most Infinity.
func Later(t, span int64) int64 {
	// A time below 0 and a span of Infinity have a sum that fits, but never come to an end.
	if t == api.Infinity || span == api.Infinity {
		return api.Infinity
	}
	sum, ok := Add(t, max(span, 0))
	if !ok {
		return api.Infinity
	}
	return sum
}

// sign is 1 of a number below 0, else 0.
func sign(n int64) uint64 {
	return uint64(n) >> 63
}

// size is a number without its sign; it is unsigned, as that of -2^63 is no int64.
func size(n int64) uint64 {
	if sign(n) == 1 {
		return -uint64(n)
	}
	return uint64(n)
}
