package breaks_test

import (
	"galley/api"
	"galley/breaks"
)

// random: numbers, the same ones each time.
type random struct{ state uint64 }

func (r *random) below(n int) int {
	r.state = r.state*6364136223846793005 + 1442695040888963407
	return int(r.state>>33) % n
}

func (r *random) chance(n int) bool { return r.below(n) == 0 }

func (r *random) from(low, high int) int { return low + r.below(high-low+1) }

func (r *random) of(l ...int) int { return l[r.below(len(l))] }

// glue: more often than not such as a paragraph's Skips have.
func (r *random) glue() api.Glue {
	g := api.Glue{Nat: r.from(0, 3), Stretch: r.from(0, 3), Shrink: r.from(0, 2)}
	switch r.below(12) {
	case 0:
		g = api.Glue{Nat: r.from(-4, 4), Stretch: r.from(-3, 9), Shrink: r.from(-3, 5)}
	case 1:
		g.StretchOrder = r.below(4)
	case 2:
		g.Shrink, g.ShrinkOrder = 0, r.below(4)
	}
	return g
}

// small: what may stand in a Disc.
func (r *random) small() []api.Node {
	switch r.below(8) {
	case 0:
		return kern(r.from(-2, 3), r.below(3))
	case 1:
		return one(api.Node{Kind: api.Rule, W: r.below(4)})
	case 2:
		return box(r.below(5), skip(9, 9, 9), char(9))
	case 3, 4:
		return nil
	}
	return char(r.below(4))
}

// item: of a paragraph.
func (r *random) item() []api.Node {
	switch r.below(22) {
	case 0, 1, 2, 3, 4:
		return glued(r.glue())
	case 5, 6:
		return kern(r.from(-2, 4), r.below(3))
	case 7, 8:
		return penalty(r.of(0, 50, -50, 100, 9999, 10000, -9999, r.from(-200, 200)))
	case 9:
		if r.chance(3) {
			return penalty(r.of(-10000, -10001, -number))
		}
		return penalty(r.of(10001, number, 0))
	case 10, 11, 12:
		return disc(r.small(), r.small(), join(r.small(), r.small()))
	case 13:
		return formula(r.of(api.MathOn, api.MathOff, api.MathOff), r.from(-1, 3))
	case 14:
		return join(formula(api.MathOff, r.below(3)), glued(r.glue()))
	case 15:
		return [][]api.Node{mark(), insert(char(9), skip(9, 9, 9)), adjust(kern(9, 1)), one(api.Node{Kind: api.Rule, W: 3, H: 9})}[r.below(4)]
	}
	if r.chance(3) {
		return box(r.below(9), skip(9, 9, 9), penalty(-10000))
	}
	return char(r.from(1, 8))
}

// unbounded: as many breaks as there are.
const unbounded = 0

// paragraph: of some items, with so many breaks at most.
func (r *random) paragraph(items, most int) []api.Node {
	var l []api.Node
	for range 1 + r.below(items) {
		next := join(l, r.item())
		if most != unbounded && len(breaksOf(next)) > most {
			break
		}
		l = next
	}
	if r.chance(2) {
		l = join(l, fill(r.from(1, 3)))
	}
	return l
}

// params: small ones, among which lines of different breaks are often equally good.
func (r *random) params() api.Params {
	p := api.Params{
		LinePenalty:   r.of(0, 10, 10, -5, -100, 9990, -number),
		HyphenPenalty: r.of(0, 50, -50, 50, 50, 10000, -10000), ExHyphenPenalty: r.of(0, 50, 100, 9999, 50, 10000, -9999),
		AdjDemerits: r.of(0, 100, 10000, 10000, -5000), DoubleHyphenDemerits: r.of(0, 100, 10000, -5000), FinalHyphenDemerits: r.of(0, 100, 5000, -7000),
		Hsize: r.from(0, 24),
	}
	if r.chance(3) {
		p.Left, p.Right = r.glue(), r.glue()
	}
	if r.chance(4) {
		p.Left.Stretch, p.Left.StretchOrder = 1, 1
	}
	if r.chance(3) {
		p.HangIndent, p.HangAfter = r.from(-5, 5), r.from(-3, 3)
	}
	if r.chance(4) {
		for range 1 + r.below(4) {
			p.Shape = append(p.Shape, [2]int{r.from(-3, 3), r.from(-2, 24)})
		}
	}
	return p
}

// asked: a tolerance, and what is put to each line's stretch.
func (r *random) asked() (tolerance, extra int) {
	return r.of(0, 1, 12, 50, 100, 200, 1000, 9999, 10000, 10001, most), r.of(0, 0, 0, 1, 3, 10, most)
}

// breaksOf: the places that are legal where nothing is said of Discs.
func breaksOf(l []api.Node) []int {
	at, _, _ := breaks.Legal(l, api.Params{})
	return at
}
