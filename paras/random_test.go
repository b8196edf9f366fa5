package paras_test

import (
	"galley/api"
	"galley/breaks"
	"galley/hyph"
	"galley/paras"
	"galley/words"
)

// random: numbers, the same ones each time.
type random struct{ state uint64 }

func (r *random) below(n int) int {
	r.state = r.state*6364136223846793005 + 1442695040888963407
	return int(r.state>>33) % n
}

func (r *random) chance(n int) bool { return r.below(n) == 0 }

func (r *random) from(low, high int) int { return low + r.below(high-low+1) }

func (r *random) of(l ...int) int { return l[r.below(len(l))] }

// glue: more often than not such as stands between words.
func (r *random) glue() api.Glue {
	switch r.below(10) {
	case 0:
		return api.Glue{Nat: r.from(-4, 4), Stretch: r.from(-3, 9), Shrink: r.from(-3, 5)}
	case 1:
		return api.Glue{Nat: r.from(0, 4), Stretch: r.from(0, 3), StretchOrder: r.below(4)}
	case 2:
		return api.Glue{Nat: r.from(0, 3), Stretch: r.from(0, 3), ShrinkOrder: r.below(4)}
	}
	return api.Glue{Nat: r.from(2, 4), Stretch: r.from(0, 4), Shrink: r.from(0, 2)}
}

// word: of a few letters, some of which may be hyphenated.
func (r *random) word() []api.Node {
	var text []byte
	for range r.from(1, 7) {
		text = append(text, "abc"[r.below(3)])
	}
	return row(string(text))
}

// small: what may stand in a Disc.
func (r *random) small() []api.Node {
	switch r.below(8) {
	case 0:
		return kern(r.from(-2, 3), r.below(3))
	case 1:
		return one(api.Node{Kind: api.Rule, W: r.below(4), H: r.below(9)})
	case 2:
		return box(r.below(5), row("_ab"))
	case 3, 4:
		return nil
	}
	return row("-")
}

func (r *random) disc() []api.Node {
	return open(api.Node{Kind: api.Disc}, r.small(), one(api.Node{Kind: api.Sep}), r.small(), one(api.Node{Kind: api.Sep}), join(r.small(), r.small()))
}

// item: of a paragraph, beside words and what is between them.
func (r *random) item() []api.Node {
	switch r.below(12) {
	case 0:
		return kern(r.from(-2, 4), r.below(3))
	case 1, 2:
		return penalty(r.of(0, 50, -50, 100, 9999, 10000, -9999, -10000, number, r.from(-200, 200)))
	case 3, 4:
		return r.disc()
	case 5:
		return formula(r.of(api.MathOn, api.MathOff, api.MathOff), r.from(-1, 3))
	case 6:
		return mark("m")
	case 7:
		return insert(row("_ab"), mark("n"))
	case 8:
		return adjust(row("ab_"), box(3, row("ab")), mark("o"))
	case 9:
		return one(api.Node{Kind: api.Rule, W: 3, H: 9})
	case 10:
		if r.chance(6) {
			return kern(r.of(most, -most, most/2), 1)
		}
		return one(api.Node{Kind: api.Special, Text: "s"})
	}
	return box(r.below(9), row("a_b"), mark("p"))
}

// paragraph: of so many words at most, and of this and that; more often than not with an end.
func (r *random) paragraph(most int) []api.Node {
	var l []api.Node
	for range r.below(most + 1) {
		l = join(l, r.word())
		if r.chance(3) {
			l = join(l, r.item())
		}
		l = join(l, glued(r.glue()))
		if r.chance(4) {
			l = join(l, r.item())
		}
	}
	if r.chance(5) {
		return l
	}
	return finished(l)
}

func (r *random) params() api.Params {
	p := api.Params{
		Pretolerance: r.of(-1, 0, 12, 100, 100, 200, 10000, most, most+1, number), Tolerance: r.of(0, 12, 100, 200, 200, 1000, 10000, most, most+1, number),
		LinePenalty: r.of(0, 10, 10, -5), HyphenPenalty: r.of(0, 50, -50, 50, 10000, -10000), ExHyphenPenalty: r.of(0, 50, 100, 10000, -10000),
		AdjDemerits: r.of(0, 100, 10000), DoubleHyphenDemerits: r.of(0, 100, 10000), FinalHyphenDemerits: r.of(0, 100, 5000),
		Emergency: r.of(-1, 0, 0, 1, 5, 20, most), Hsize: r.from(10, 70),
	}
	if r.chance(6) {
		p.Looseness = r.from(-2, 2)
	}
	if r.chance(12) {
		p.Tolerance = -1
	}
	if r.chance(3) {
		p.Left, p.Right = r.glue(), r.glue()
	}
	if r.chance(4) {
		p.Right.Stretch, p.Right.StretchOrder = 1, 1
	}
	if r.chance(3) {
		p.HangIndent, p.HangAfter = r.from(-9, 9), r.from(-3, 3)
	}
	for r.chance(3) {
		p.Shape = append(p.Shape, [2]int{r.from(-3, 9), r.from(10, 70)})
	}
	if r.chance(20) {
		p.Hsize, p.HangIndent = r.of(most, -most), r.of(1, -1, 0)
	}
	return p
}

func (r *random) between() paras.Between {
	one := func() int { return r.of(0, 0, 1, -1, 10, -10, 100, number, -number) }
	return paras.Between{Line: one(), Club: one(), Widow: one(), Broken: one()}
}

func (r *random) setup() words.Setup {
	s := setup()
	s.Left, s.Right = r.from(1, 2), r.from(1, 2)
	if r.chance(9) {
		s.Hyphen[0] = -1
	}
	return s
}

func (r *random) hyph() *hyph.Hyph {
	return patterns([][]string{nil, {"1a"}, {"1b", "c1c"}, {"a1"}, {"ab-c", "1c"}}[r.below(5)]...)
}

// places: of a paragraph that may be, some of its legal breaks, with each forced one and the end.
func (r *random) places(l []api.Node, p api.Params) []int {
	var at []int
	legal, penalties, _ := breaks.Legal(l, p)
	often := r.from(1, 6)
	for i, here := range legal {
		if penalties[i] <= -10000 || r.chance(often) {
			at = append(at, here)
		}
	}
	return at
}
