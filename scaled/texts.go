package scaled

import (
	"strconv"
	"strings"

	"galley/api"
)

// mostDigits: of a decimal count for something: TeX82 keeps no more of them.
const mostDigits = 17

// Decimals: the digits behind a point, as a number of 2^-16.
func Decimals(digits string) (int, api.Errno) {
	if leadingDigits(digits) != digits {
		return 0, api.ErrDimen
	}
	return fraction(digits), api.OK
}

// fraction takes the last digit first, so that what each one loses is lost only once.
func fraction(digits string) int {
	var kept [mostDigits]int
	many := min(len(digits), mostDigits)
	for i, c := range digits[:many] {
		kept[i] = int(c - '0')
	}
	a := 0
	for i := many - 1; i >= 0; i-- {
		a = (a + 2*api.Unity*kept[i]) / 10
	}
	return (a + 1) / 2
}

// Print: a number as points, with no more digits than Parse needs to find it again.
func Print(s int) string {
	if !fits(s) {
		return ""
	}
	var b strings.Builder
	if s < 0 {
		b.WriteByte('-')
		s = -s
	}
	b.WriteString(strconv.Itoa(s / api.Unity))
	b.WriteByte('.')
	writeFraction(&b, s%api.Unity)
	return b.String()
}

// writeFraction: delta is how far off the digits so far may be; where it is passed they are enough.
func writeFraction(b *strings.Builder, f int) {
	x, delta := 10*f+5, 10
	for {
		if delta > api.Unity {
			x += 32768 - 50000
		}
		b.WriteByte(byte('0' + x/api.Unity))
		x, delta = 10*(x%api.Unity), 10*delta
		if x <= delta {
			return
		}
	}
}

// roman: a number that has letters of its own.
type roman struct {
	value   int
	letters string
}

// romans: the greatest first, as they are written.
var romans = [13]roman{
	{1000, "m"}, {900, "cm"}, {500, "d"}, {400, "cd"}, {100, "c"}, {90, "xc"},
	{50, "l"}, {40, "xl"}, {10, "x"}, {9, "ix"}, {5, "v"}, {4, "iv"}, {1, "i"},
}

// Roman: a number in small Roman letters.
func Roman(n int) string {
	if n < 1 || n > 20000 {
		return ""
	}
	var b strings.Builder
	for _, r := range romans {
		for n >= r.value {
			b.WriteString(r.letters)
			n -= r.value
		}
	}
	return b.String()
}
