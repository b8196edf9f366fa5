package breaks_test

import (
	"math"
	"slices"
	"testing"

	"galley/api"
	"galley/breaks"
)

type line = breaks.Break

func TestP906Examples(t *testing.T) {
	p := params(65 * pt)
	costIs(t, "W", four(), p, 100, 0, line{At: 5, Class: 2, Demerits: 100}, line{At: 11, Class: 2, Demerits: 100})
	p.Hsize = 64 * pt
	costIs(t, "W", four(), p, 100, 0, line{At: 5, Badness: 100, Class: 3, Demerits: 12100}, line{At: 11, Badness: 100, Class: 3, Demerits: 12100})
	p.Hsize = 20 * pt
	bad := line{Badness: 10001, Class: 3, Over: 10 * pt, Bad: true}
	var all []line
	for _, at := range []int{2, 5, 8, 11} {
		bad.At = at
		all = append(all, bad)
	}
	costIs(t, "W", four(), p, 100, 0, all...)
}

func TestP906Range(t *testing.T) {
	p := params(65 * pt)
	at := []int{5, 11}
	for _, n := range []int{0, 1, most} {
		for _, m := range []int{0, 1, most} {
			if got, e := breaks.Cost(four(), p, n, m, at); len(got) != 2 || e != api.OK {
				t.Errorf("Cost, %d, %d: %v, %d", n, m, got, e)
			}
			if got := choose(four(), p, n, m, true); got.e != api.OK {
				t.Errorf("Choose, %d, %d: %v", n, m, got)
			}
		}
		for _, wrong := range []int{-1, most + 1, math.MaxInt, math.MinInt} {
			for _, at := range [][]int{at, {5}, {99}, nil} {
				costIsnt(t, "W", four(), p, n, wrong, at, api.ErrRange)
				costIsnt(t, "W", four(), p, wrong, n, at, api.ErrRange)
				costIsnt(t, "W", four(), p, wrong, wrong, at, api.ErrRange)
			}
			for _, last := range []bool{false, true} {
				choosesNone(t, "W", four(), with(p, func(p *api.Params) { p.Hsize = 0 }), n, wrong, last, api.ErrRange)
				choosesNone(t, "W", four(), p, wrong, n, last, api.ErrRange)
			}
		}
	}
}

func TestP906None(t *testing.T) {
	p := params(65 * pt)
	for _, at := range [][]int{
		nil, {}, {2}, {2, 5, 8}, {5, 2, 11}, {11, 11}, {11, 5}, {5, 5, 11}, {2, 5, 5, 11}, {3, 11}, {0, 11}, {-1, 11}, {-1, 5, 11}, {5, 10}, {5, 11, 12},
		{12}, {10}, {0}, {5, 11, 11}, {5, 11, -1}, {11, 2}, {math.MinInt, 11}, {5, math.MaxInt}, {math.MaxInt}, {2, 5, 8, 9, 11},
	} {
		costIsnt(t, "W", four(), p, 100, 0, at, api.ErrNone)
	}
	for _, at := range [][]int{{11}, {2, 11}, {8, 11}, {2, 5, 8, 11}} {
		if got, e := breaks.Cost(four(), p, 100, 0, at); len(got) != len(at) || e != api.OK {
			t.Errorf("Cost of %v: %v, %d", at, got, e)
		}
	}
	costIsnt(t, "nothing", nil, p, 100, 0, nil, api.ErrNone)
	costIsnt(t, "nothing", nil, p, 100, 0, []int{-1}, api.ErrNone)
	costIs(t, "nothing", nil, params(0), 100, 0, line{At: 0, Class: 2, Demerits: 100})
}

func TestP906Forced(t *testing.T) {
	p := params(1)
	fine := line{Class: 2, Demerits: 100}
	at := func(n int) line { x := fine; x.At = n; return x }
	for _, q := range []int{-10000, -10001, -number} {
		l := join(char(1), penalty(q), char(1), penalty(q), char(1))
		for _, wrong := range [][]int{{5}, {1, 5}, {3, 5}, {1, 3}} {
			costIsnt(t, "forced", l, p, 100, 0, wrong, api.ErrNone)
		}
		costIs(t, "forced", l, p, 100, 0, at(1), at(3), at(5))
		// The end's own penalty goes with it.
		l = join(char(1), penalty(q))
		costIsnt(t, "forced", l, p, 100, 0, []int{2}, api.ErrNone)
		// A Disc may be forced, too.
		l = join(char(1), disc(kern(0, 0), nil, nil), char(1))
		forcing := with(p, func(p *api.Params) { p.HyphenPenalty = q })
		costIsnt(t, "forced", l, forcing, 100, 0, []int{7}, api.ErrNone)
		costIs(t, "forced", l, forcing, 100, 0, at(1), at(7))
	}
	l := join(char(1), penalty(-9999), char(1))
	if got, e := breaks.Cost(l, p, 100, 0, []int{3}); len(got) != 1 || e != api.OK {
		t.Errorf("%v, %d", got, e)
	}
}

// stretching: a line that is so bad.
func stretching(badness int) []api.Node {
	for by := 1; ; by++ {
		if b, _, _ := breaks.Judge(totals(-by, 297, 0), 0); b == badness {
			return join(char(-by), skip(0, 297, 0))
		}
	}
}

// demeritsIs: of a paragraph in one line.
func demeritsIs(t *testing.T, name string, l []api.Node, p api.Params, tolerance, want int) {
	t.Helper()
	got, e := breaks.Cost(l, p, tolerance, 0, []int{len(l)})
	if e != api.OK || len(got) != 1 || got[0].Demerits != want {
		t.Errorf("Demerits of %s: %v, %d; want %d", name, got, e, want)
	}
}

func TestP906Badness(t *testing.T) {
	for _, x := range [][3]int{ // LinePenalty, Badness, Demerits
		{0, 0, 0}, {10, 0, 100}, {-10, 0, 100}, {10, 1, 121}, {-10, 1, 81}, {0, 100, 10000}, {-100, 100, 0}, {10, 101, 111 * 111},
		{9999, 0, 9999 * 9999}, {-9999, 0, 9999 * 9999}, {10000, 0, 100000000}, {-10000, 0, 100000000}, {10001, 0, 100000000}, {-10001, 0, 100000000},
		{9998, 1, 9999 * 9999}, {9999, 1, 100000000}, {-10000, 1, 9999 * 9999}, {-10001, 1, 100000000}, {number, 100, 100000000}, {-number, 100, 100000000},
		{-1, 10000, 9999 * 9999}, {0, 10000, 100000000}, {1, 10000, 100000000}, {-19999, 10000, 9999 * 9999}, {-20000, 10000, 100000000}, {-10000, 10000, 0},
	} {
		l := join(stretching(x[1]), penalty(10000))
		if x[1] == 0 {
			l = nil
		}
		p := with(params(0), func(p *api.Params) { p.LinePenalty = x[0] })
		demeritsIs(t, "a line", l, p, 10000, x[2])
	}
}

func TestP906Penalty(t *testing.T) {
	for _, x := range [][2]int{ // of the break, and what it puts to the demerits
		{0, 0}, {1, 1}, {-1, -1}, {50, 2500}, {-50, -2500}, {9999, 9999 * 9999}, {-9999, -9999 * 9999}, {-10000, 0}, {-10001, 0}, {-number, 0},
	} {
		for _, penaltyOf := range []int{0, 10, 20000} {
			p := with(params(1), func(p *api.Params) { p.LinePenalty = penaltyOf })
			base := min(penaltyOf*penaltyOf, 100000000)
			costIs(t, "a Penalty", join(char(1), penalty(x[0]), char(1)), p, 0, 0, line{At: 1, Class: 2, Demerits: base + x[1]}, line{At: 3, Class: 2, Demerits: base})
			p.HyphenPenalty, p.ExHyphenPenalty = x[0], 77
			costIs(t, "a Disc", join(char(1), disc(kern(0, 0), nil, nil), box(1)), p, 0, 0, line{At: 1, Class: 2, Demerits: base + x[1]}, line{At: 8, Class: 2, Demerits: base})
			p.HyphenPenalty, p.ExHyphenPenalty = 77, x[0]
			costIs(t, "a Disc", join(char(1), disc(nil, nil, nil), box(1)), p, 0, 0, line{At: 1, Class: 2, Demerits: base + x[1]}, line{At: 7, Class: 2, Demerits: base})
		}
	}
}

func TestP906Discs(t *testing.T) {
	p := with(params(1), func(p *api.Params) {
		p.LinePenalty, p.DoubleHyphenDemerits, p.FinalHyphenDemerits, p.ExHyphenPenalty = 0, 1000, 300, 2
	})
	d, c := disc(nil, nil, nil), char(1)
	at := func(at, demerits int) line { return line{At: at, Class: 2, Demerits: demerits} }
	// Discs at 1, 6 and 11, the end at 16.
	l := join(c, d, c, d, c, d, c)
	costIs(t, "Discs", l, p, 0, 0, at(1, 4), at(6, 1004), at(11, 1004), at(16, 300))
	// Discs at 1 and 8, a Penalty at 6 between them.
	l = join(c, d, c, penalty(3), c, d, c)
	costIs(t, "a Disc, another break, a Disc", l, p, 0, 0, at(1, 4), at(6, 9), at(8, 4), at(13, 300))
	// The end behind another break, and the end at once.
	costIs(t, "no Disc ahead of the end", join(c, d, c, penalty(3), c), p, 0, 0, at(1, 4), at(6, 9), at(8, 0))
	costIs(t, "the end alone", c, p, 0, 0, at(1, 0))
	// A forced break is not the end.
	l = join(c, d, c, penalty(-10000), c)
	costIs(t, "a forced break behind a Disc", l, p, 0, 0, at(1, 4), at(6, 0), at(8, 0))
	// Demerits below 0 likewise.
	p.DoubleHyphenDemerits, p.FinalHyphenDemerits = -number, -5
	costIs(t, "below 0", join(c, d, c, d, c), p, 0, 0, at(1, 4), at(6, 4-number), at(11, -5))
	// A Disc that is the last item.
	costIs(t, "a Disc at the end", join(c, d), with(p, func(p *api.Params) { p.Hsize = 0 }), 10000, 0,
		line{At: 1, Badness: 10001, Class: 3, Over: 1, Bad: true}, at(5, -5))
}

// classed: a paragraph of lines of these classes, where they are 1000 wide: with 297 to stretch or shrink, and a Penalty behind each.
func classed(classes ...int) []api.Node {
	var l []api.Node
	for _, c := range classes {
		w := []int{1000 - 297, 1000 - 149, 1000, 1000 + 149}[c]
		l = join(l, box(w), skip(0, 297, 297), penalty(0), penalty(10000))
	}
	return l
}

func TestP906Classes(t *testing.T) {
	p := with(params(1000), func(p *api.Params) { p.LinePenalty, p.AdjDemerits = 0, 7 })
	badness := []int{100, 13, 0, 13}
	for a := range 4 {
		for b := range 4 {
			// Ahead of the first line stands the class 2; behind the last Penalty an empty line, of a width of its own.
			l := classed(a, b)
			p.Shape = [][2]int{{0, 1000}, {0, 1000}, {0, 0}}
			at := []int{3, 8, 10}
			got, e := breaks.Cost(l, p, 100, 0, at)
			want := []line{{At: 3, Badness: badness[a], Class: a}, {At: 8, Badness: badness[b], Class: b}, {At: 10, Class: 2}}
			ahead := 2
			for i := range want {
				want[i].Demerits = want[i].Badness * want[i].Badness
				if c := want[i].Class; c-ahead > 1 || ahead-c > 1 {
					want[i].Demerits += 7
				}
				ahead = want[i].Class
			}
			if !slices.Equal(got, want) || e != api.OK {
				t.Errorf("classes %d %d: %v, %d; want %v", a, b, got, e, want)
			}
		}
	}
	// A Bad line has a class for the next one, but no demerits of its own.
	p.Shape = [][2]int{{0, 1000}}
	l := join(box(1298), penalty(0), box(500), penalty(0), box(1000))
	costIs(t, "Bad ones", l, p, 9999, 0, line{At: 2, Badness: 10001, Class: 3, Over: 298, Bad: true}, line{At: 5, Badness: 10000, Class: 0, Bad: true}, line{At: 8, Class: 2, Demerits: 7})
	p.AdjDemerits = -number
	costIs(t, "below 0", classed(0)[:5], p, 100, 0, line{At: 3, Badness: 100, Class: 0, Demerits: 10000 - number}, line{At: 5, Badness: 10000, Class: 0, Bad: true})
}

func TestP906Bad(t *testing.T) {
	p := with(params(0), func(p *api.Params) { p.LinePenalty = 1 })
	for _, badness := range []int{1, 12, 100, 8189, 10000} {
		l := join(stretching(badness), penalty(10000))
		_, class, _ := breaks.Judge(plainTotals(l, p, -1, len(l)), 0)
		at := line{At: 3, Badness: badness, Class: class}
		good, bad := at, at
		good.Demerits = (1 + badness) * (1 + badness)
		if badness == 10000 {
			good.Demerits = 100000000
		}
		bad.Bad = true
		costIs(t, "a line", l, p, badness, 0, good)
		costIs(t, "a line", l, p, most, 0, good)
		costIs(t, "a line", l, p, badness-1, 0, bad)
		costIs(t, "a line", l, p, 0, 0, bad)
	}
	// What is too full is Bad, however much is suffered.
	for _, tolerance := range []int{0, 9999, 10000, 10001, most} {
		l := join(char(1000), skip(0, 297, 100), penalty(10000))
		costIs(t, "a line that is too full", l, p, tolerance, most, line{At: 3, Badness: 10001, Class: 3, Over: 900, Bad: true})
		l[1].Glue.Shrink = -100
		costIs(t, "a line that shrinks the wrong way", l, p, tolerance, 0, line{At: 3, Badness: 10001, Class: 3, Over: 1100, Bad: true})
		l = join(l, fill(3))
		costIs(t, "a line that is too full, with filling", l, p, tolerance, 0, line{At: 4, Badness: 10001, Class: 3, Over: 1100, Bad: true})
	}
	l := join(char(1000), skip(0, 0, 1000))
	p.Right = api.Glue{Nat: 5, Shrink: 3}
	costIs(t, "what is at the side", l, p, 0, 0, line{At: 1, Badness: 10001, Class: 3, Over: 1002, Bad: true}, line{At: 2, Badness: 10001, Class: 3, Over: 2, Bad: true})
	p.Hsize = 2
	costIs(t, "as full as may be", l, p, 100, 0, line{At: 1, Badness: 10001, Class: 3, Over: 1000, Bad: true}, line{At: 2, Badness: 100, Class: 3, Demerits: 101 * 101})
}

func TestP906Extra(t *testing.T) {
	p := params(297)
	l := join(char(0), skip(0, 97, 0), penalty(10000))
	for extra, want := range map[int]line{
		0: {At: 3, Badness: 2865}, 200: {At: 3, Badness: 100}, 97: {At: 3, Badness: 357}, 203: {At: 3, Badness: 97, Class: 1}, 2000: {At: 3, Badness: 0, Class: 2}, most: {At: 3, Badness: 0, Class: 2},
	} {
		want.Demerits = (want.Badness + 10) * (want.Badness + 10)
		costIs(t, "extra", l, p, 10000, extra, want)
	}
	// Each line has it, also one without glue, and one whose glue stretches the wrong way.
	l = join(char(0), penalty(0), char(0), skip(0, -100, 0), penalty(10000))
	costIs(t, "extra", l, p, 10000, 297, line{At: 1, Badness: 100, Demerits: 12100}, line{At: 5, Badness: 341, Demerits: 351 * 351})
	costIs(t, "too little extra", l, p, 9999, 100, line{At: 1, Badness: 2617, Demerits: 2627 * 2627}, line{At: 5, Badness: 10000, Bad: true})
}

func TestP906Widths(t *testing.T) {
	p := params(1)
	p.Shape = [][2]int{{9, 1}, {8, 2}, {7, 4}}
	c := func(w int) []api.Node { return join(char(w), penalty(0)) }
	l := join(c(1), c(2), c(4), c(4), char(4))
	at := func(at int) line { return line{At: at, Class: 2, Demerits: 100} }
	costIs(t, "a Shape", l, p, 0, 0, at(1), at(3), at(5), at(7), at(9))
	p = with(params(9), func(p *api.Params) { p.HangIndent, p.HangAfter = 4, 2 })
	costIs(t, "hanging", join(c(9), c(9), c(5), char(5)), p, 0, 0, at(1), at(3), at(5), at(7))
	p.HangIndent, p.HangAfter = -4, -1
	costIs(t, "hanging", join(c(5), c(9), c(9), char(9)), p, 0, 0, at(1), at(3), at(5), at(7))
}

func TestP906Random(t *testing.T) {
	r := &random{906}
	for range 4000 {
		l, p := r.paragraph(25, unbounded), r.params()
		tolerance, extra := r.asked()
		legal, penalties, _ := plainLegal(l, p)
		var at []int
		for i, here := range legal {
			if penalties[i] <= -10000 && !r.chance(20) || r.chance(3) {
				at = append(at, here)
			}
		}
		if r.chance(9) && len(at) > 0 {
			at[r.below(len(at))] += r.from(-1, 1)
		}
		got, e := breaks.Cost(l, p, tolerance, extra, at)
		if want, wantE := plainCost(l, p, tolerance, extra, at); !slices.Equal(got, want) || e != wantE {
			t.Fatalf("Cost of %v, %v, %d, %d, %v: %v, %d; want %v, %d", l, p, tolerance, extra, at, got, e, want, wantE)
		}
	}
}
