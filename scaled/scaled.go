// Package scaled is layer 1: whole numbers of scaled points: see shared/doc/01-scaled.md.
package scaled

import (
	"math/bits"

	"galley/api"
)

// mostDivisor keeps twice a rest of Part within 64 bits.
const mostDivisor = 1 << 60

// fits: may all of these be arguments?
func fits(numbers ...int) bool {
	for _, n := range numbers {
		if n < -api.MaxNumber || n > api.MaxNumber {
			return false
		}
	}
	return true
}

// dimension: what a call answers whose result is to be a dimension.
func dimension(n int) (int, api.Errno) {
	if n < -api.MaxDimen || n > api.MaxDimen {
		return 0, api.ErrArith
	}
	return n, api.OK
}

// Add: a + b.
func Add(a, b int) (int, api.Errno) {
	if !fits(a, b) {
		return 0, api.ErrRange
	}
	return dimension(a + b)
}

// Times: n x + y.
func Times(n, x, y int) (int, api.Errno) {
	if !fits(n, x, y) {
		return 0, api.ErrRange
	}
	return dimension(n*x + y)
}

// Over: x / n, and what is left over.
func Over(x, n int) (q, rest int, e api.Errno) {
	if !fits(x, n) {
		return 0, 0, api.ErrRange
	}
	if n == 0 {
		return 0, 0, api.ErrArith
	}
	return x / n, x % n, api.OK
}

// Frac: x n / d, and what is left over.
func Frac(x, n, d int) (q, rest int, e api.Errno) {
	if !fits(x, n, d) {
		return 0, 0, api.ErrRange
	}
	if n < 0 || d < 1 {
		return 0, 0, api.ErrArg
	}
	product := x * n
	q, e = dimension(product / d)
	if e != api.OK {
		return 0, 0, e
	}
	return q, product % d, api.OK
}

// Part: x n / d, rounded, for n / d from 0 to 1.
func Part(x, n, d int) (int, api.Errno) {
	if !fits(x) {
		return 0, api.ErrRange
	}
	if n < 0 || n > d || d < 1 || d > mostDivisor {
		return 0, api.ErrArg
	}
	if x < 0 {
		return -rounded(-x, n, d), api.OK
	}
	return rounded(x, n, d), api.OK
}

// rounded works with 128 bits, as x n may have 91 of them; the quotient fits into 64 because n is at most d.
func rounded(x, n, d int) int {
	high, low := bits.Mul64(uint64(x), uint64(n))
	q, rest := bits.Div64(high, low, uint64(d))
	if 2*rest >= uint64(d) {
		q++
	}
	return int(q)
}

// Badness: how far glue must go that can do s, and has to do t.
func Badness(t, s int) (int, api.Errno) {
	if !fits(t, s) {
		return 0, api.ErrRange
	}
	if t < 0 {
		return 0, api.ErrArg
	}
	if t == 0 {
		return 0, api.OK
	}
	if s < 1 {
		return api.Infinite, api.OK
	}
	r := ratio(t, s)
	if r > 1290 {
		return api.Infinite, api.OK
	}
	return (r*r*r + 131072) / 262144, api.OK
}

// ratio: 297 t / s, as near as TeX82 comes to it in 31 bits, so that badness is the same as there.
func ratio(t, s int) int {
	switch {
	case t <= 7230584:
		return 297 * t / s
	case s >= 1663497:
		return t / (s / 297)
	}
	return t
}
