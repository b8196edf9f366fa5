package scaled

import (
	"strings"

	"galley/api"
)

// unit: n / d points. That of scaled points has d 0: what stands behind their point counts for nothing.
type unit struct {
	name string
	n, d int
}

var units = [9]unit{
	{"pt", 1, 1}, {"in", 7227, 100}, {"pc", 12, 1}, {"cm", 7227, 254}, {"mm", 7227, 2540},
	{"bp", 7227, 7200}, {"dd", 1238, 1157}, {"cc", 14856, 1157}, {"sp", 0, 0},
}

// reader cuts a text, from its beginning on; its steps cut off what they know, and tell whether it was right.
type reader struct {
	left  string
	minus bool
	whole int // of the points; one more than MaxNumber stands for all that is greater
	part  int // of 2^-16, behind the point
	unit  unit
}

// Parse: a number of points.
func Parse(text string) (int, api.Errno) {
	r := &reader{left: text}
	if !r.follow(r.sign, r.number) {
		return 0, api.ErrDimen
	}
	return r.signed(api.Unity*r.whole + r.part)
}

// Dimen: a number with a unit.
func Dimen(text string) (int, api.Errno) {
	r := &reader{left: text}
	if !r.follow(r.sign, r.number, r.measure) {
		return 0, api.ErrDimen
	}
	if r.unit.d == 0 {
		return r.signed(r.whole)
	}
	// whole is at most 2^31 and n below 2^14, so that this stays below 2^62.
	return r.signed(r.unit.n * (api.Unity*r.whole + r.part) / r.unit.d)
}

// follow takes the steps one by one; nothing may be left behind the last.
func (r *reader) follow(steps ...func() bool) bool {
	for _, step := range steps {
		if !step() {
			return false
		}
	}
	return r.left == ""
}

// sign: a minus, or none.
func (r *reader) sign() bool {
	r.left, r.minus = strings.CutPrefix(r.left, "-")
	return true
}

// number: digits, which may have a point among them, or at one end.
func (r *reader) number() bool {
	before := r.digits()
	behind := ""
	rest, pointed := strings.CutPrefix(r.left, ".")
	if pointed {
		r.left = rest
		behind = r.digits()
	}
	r.whole, r.part = whole(before), fraction(behind)
	return before != "" || behind != ""
}

// digits cuts off all that stand here.
func (r *reader) digits() string {
	found := leadingDigits(r.left)
	r.left = r.left[len(found):]
	return found
}

// measure: the name of a unit.
func (r *reader) measure() bool {
	for _, u := range units {
		if rest, found := strings.CutPrefix(r.left, u.name); found {
			r.left, r.unit = rest, u
			return true
		}
	}
	return false
}

// signed: with the minus, if there was one; quotients are taken ahead of it, so that they lose as much on either side.
func (r *reader) signed(size int) (int, api.Errno) {
	if r.minus {
		size = -size
	}
	return dimension(size)
}

// leadingDigits: those at a text's beginning.
func leadingDigits(text string) string {
	for i, c := range text {
		if c < '0' || c > '9' {
			return text[:i]
		}
	}
	return text
}

// whole: as many digits as one likes may come, so it stops to grow before it would wrap round.
func whole(digits string) int {
	n := 0
	for _, c := range digits {
		n = min(10*n+int(c-'0'), api.MaxNumber+1)
	}
	return n
}
