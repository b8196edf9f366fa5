package breaks

import (
	"galley/api"
	"galley/sizes"
)

// mostSize: of what a line is judged by.
const mostSize = 1 << 46

// tooFull: the badness of what can't shrink so much.
const tooFull = api.Infinite + 1

// Classes of lines.
const (
	veryLoose = 0
	loose     = 1
	decent    = 2
	tight     = 3
)

// judged: of totals and a width within mostSize.
func judged(t api.Totals, width int) (badness, class int) {
	badness, full := sizes.Badness(t, width)
	switch {
	case full:
		return tooFull, tight
	case t.Nat <= width:
		return badness, stretched(badness)
	case badness > 12:
		return badness, tight
	}
	return badness, decent
}

// stretched: the class of a line by its badness.
func stretched(badness int) int {
	switch {
	case badness > 99:
		return veryLoose
	case badness > 12:
		return loose
	}
	return decent
}

// pricing: of a paragraph's lines.
type pricing struct {
	*paragraph
	tolerance, extra int
}

func pricingOf(l []api.Node, p api.Params, tolerance, extra int) (*pricing, api.Errno) {
	t, e := paragraphOf(l, p)
	if e != api.OK {
		return nil, e
	}
	if min(tolerance, extra) < 0 || max(tolerance, extra) > api.MaxDimen {
		return nil, api.ErrRange
	}
	return &pricing{t, tolerance, extra}, api.OK
}

// path: the numbers of breaks that are legal ones, rising, with each forced one, the end's too.
func (p *pricing) path(at []int) (path []int, found bool) {
	for i, b := range p.breaks {
		switch {
		case b.at < 0:
		case len(path) < len(at) && at[len(path)] == b.at:
			path = append(path, i)
		case b.forced():
			return nil, false
		}
	}
	return path, len(path) == len(at)
}

// cost: of the lines of a path, one by one.
func (p *pricing) cost(path []int) []Break {
	lines := make([]Break, 0, len(path))
	from, class := 0, decent
	for i, to := range path {
		width, _ := widthOf(p.Params, i+1)
		line := p.priced(from, to, p.line(from, to), width)
		line.Demerits += p.apart(&line, class)
		lines = append(lines, line)
		from, class = to, line.Class
	}
	return lines
}

// priced: a line with its totals, but without the demerits that hang on the class of the one ahead.
func (p *pricing) priced(from, to int, t api.Totals, width int) Break {
	t.Stretch[0] += p.extra
	line := Break{At: p.breaks[to].at}
	line.Badness, line.Class = judged(t, width)
	line.Bad = line.Badness > min(p.tolerance, api.Infinite)
	if line.Badness == tooFull {
		line.Over = t.Nat - width - t.Shrink[0]
	}
	if !line.Bad {
		line.Demerits = p.demerits(&p.breaks[from], &p.breaks[to], line.Badness)
	}
	return line
}

// demerits: of a line that isn't Bad.
func (p *pricing) demerits(from, to *place, badness int) int {
	sum := 100000000
	if d := p.LinePenalty + badness; within(9999, d) {
		sum = d * d
	}
	switch q := to.penalty; {
	case q > 0:
		sum += q * q
	case q > api.Eject: // what is forced is no merit of the line
		sum -= q * q
	}
	switch {
	case from.disc && to.disc:
		sum += p.DoubleHyphenDemerits
	case from.disc && to.end:
		sum += p.FinalHyphenDemerits
	}
	return sum
}

// apart: the demerits of a line beside one of another class.
func (p *pricing) apart(line *Break, class int) int {
	if line.Bad || within(1, line.Class-class) {
		return 0
	}
	return p.AdjDemerits
}
