package breaks_test

import (
	"math"
	"slices"
	"testing"

	"galley/api"
	"galley/breaks"
)

func TestP903Examples(t *testing.T) {
	p := params(65 * pt)
	lineIs(t, four(), p, -1, 5, totals(65*pt, 3*pt, pt))
	lineIs(t, four(), p, 5, 11, totals(65*pt, 3*pt, pt))
	lineIs(t, four(), p, -1, 2, totals(30*pt, 0, 0))
	lineIs(t, four(), p, 2, 5, totals(30*pt, 0, 0))
	lineIs(t, four(), p, 8, 11, totals(30*pt, 0, 0))
	lineIs(t, four(), p, -1, 11, totals(135*pt, 9*pt, 3*pt))
}

func TestP903None(t *testing.T) {
	p := params(65 * pt)
	for _, from := range []int{-2, 0, 1, 3, 4, 12, math.MaxInt, math.MinInt, 1 << 32} {
		lineIsnt(t, four(), p, from, 11, api.ErrNone)
		lineIsnt(t, four(), p, from, 99, api.ErrNone)
	}
	for _, to := range []int{-2, -1, 0, 1, 3, 4, 10, 12, math.MaxInt, math.MinInt} {
		lineIsnt(t, four(), p, -1, to, api.ErrNone)
		lineIsnt(t, four(), p, 2, to, api.ErrNone)
	}
	for _, pair := range [][2]int{{2, 2}, {5, 2}, {11, 11}, {11, 8}, {5, -1}, {-1, -1}} {
		lineIsnt(t, four(), p, pair[0], pair[1], api.ErrNone)
	}
	// What is no legal break, or one only with other parameters.
	l := join(char(1), penalty(10000), char(2), hyphen(4))
	lineIsnt(t, l, p, -1, 1, api.ErrNone)
	lineIsnt(t, l, p, 1, len(l), api.ErrNone)
	lineIs(t, l, p, -1, 3, totals(7, 0, 0))
	lineIsnt(t, l, with(p, func(p *api.Params) { p.HyphenPenalty = 10000 }), -1, 3, api.ErrNone)
	lineIs(t, nil, p, -1, 0, totals(0, 0, 0))
	lineIsnt(t, nil, p, 0, 0, api.ErrNone)
}

// What each kind of item has, between two breaks.
func TestP903Items(t *testing.T) {
	p := params(5)
	l := join(penalty(0), char(1), one(api.Node{Kind: api.Lig, W: 2, H: 99, D: 99, Text: "fi"}), one(api.Node{Kind: api.Rule, W: 4, H: 99}),
		box(8, char(99), skip(99, 99, 99)), open(api.Node{Kind: api.VBox, W: 16}, kern(99, 1)), kern(32, 0), kern(64, 1), kern(128, 2),
		formula(api.MathOn, 256), formula(api.MathOff, 512), one(api.Node{Kind: api.Rule, Sub: 1, H: 99}), mark(), insert(char(99), skip(99, 99, 99)), adjust(char(99)),
		one(api.Node{Kind: api.Special, Text: "99"}), disc(char(9999), char(9999), join(char(1024), kern(2048, 1))), penalty(55))
	at := len(l) - 1
	lineIs(t, l, p, 0, at, totals(4095, 0, 0))
	lineIs(t, l, p, -1, len(l), totals(4095, 0, 0))
	l = join(char(1), glued(api.Glue{Nat: 2, Stretch: 3, Shrink: 4}), glued(api.Glue{Nat: 8, Stretch: 5, StretchOrder: 1, Shrink: -1}),
		glued(api.Glue{Nat: -20, Stretch: -6, StretchOrder: 2}), glued(api.Glue{Stretch: 7, StretchOrder: 3, ShrinkOrder: 2}), glued(api.Glue{Stretch: 9, StretchOrder: 3, Shrink: 1}))
	lineIs(t, l, p, -1, len(l), api.Totals{Nat: -9, Stretch: [4]int{3, 5, -6, 16}, Shrink: [4]int{4}})
}

func TestP903Sides(t *testing.T) {
	p := with(params(5), func(p *api.Params) {
		p.Left = api.Glue{Nat: 100, Stretch: 10, Shrink: 20}
		p.Right = api.Glue{Nat: 1000, Stretch: 30, StretchOrder: 2, Shrink: -5}
	})
	sides := api.Totals{Nat: 1100, Stretch: [4]int{10, 0, 30}, Shrink: [4]int{15}}
	lineIs(t, nil, p, -1, 0, sides)
	l := join(char(1), skip(2, 3, 4), char(5))
	lineIs(t, l, p, -1, len(l), api.Totals{Nat: 1108, Stretch: [4]int{13, 0, 30}, Shrink: [4]int{19}})
	lineIs(t, l, p, 1, len(l), api.Totals{Nat: 1105, Stretch: [4]int{10, 0, 30}, Shrink: [4]int{15}})
	// A line all of which falls away has them, too.
	lineIs(t, join(char(1), skip(2, 3, 4), skip(5, 6, 7)), p, 1, 3, sides)
	lineIs(t, penalty(0), p, 0, 1, sides)
}

// The first items of a line that fall away are left out, but at the paragraph's beginning.
func TestP903Falls(t *testing.T) {
	p := params(5)
	all := join(skip(1, 1, 1), kern(2, 0), kern(4, 1), kern(8, 2), penalty(10000), formula(api.MathOn, 16), formula(api.MathOff, 32))
	lineIs(t, join(all, char(64), skip(3, 3, 3)), p, -1, 9, totals(130, 4, 4))
	for _, first := range [][]api.Node{penalty(0), join(char(1), skip(9, 9, 9)), join(kern(7, 1), skip(9, 9, 9)), join(formula(api.MathOff, 7), skip(9, 9, 9))} {
		at := slices.IndexFunc(first, func(n api.Node) bool { return n.Kind != api.Char })
		l := join(first, all, char(64), all, char(128))
		lineIs(t, l, p, at, len(l), totals(64+63+128, 1, 1))
		l = join(first, all)
		lineIs(t, l, p, at, len(l), totals(0, 0, 0))
		for name, stays := range staying() {
			w := stays[0].W
			l = join(first, all, stays, all, penalty(0), char(5))
			if got, e := breaks.Line(l, p, at, len(l)); e != api.OK || got.Nat != w+63+5 {
				t.Errorf("%s: %v, %d", name, got, e)
			}
		}
	}
	// Up to the break, not beyond.
	l := join(penalty(0), kern(1, 0), penalty(0), kern(2, 0), penalty(0), char(4), penalty(0))
	lineIs(t, l, p, 0, 2, totals(0, 0, 0))
	lineIs(t, l, p, 0, 4, totals(0, 0, 0))
	lineIs(t, l, p, -1, 2, totals(1, 0, 0))
	lineIs(t, l, p, -1, 4, totals(3, 0, 0))
	lineIs(t, l, p, 2, 6, totals(4, 0, 0))
	lineIs(t, l, p, 0, 6, totals(4, 0, 0))
	lineIs(t, l, p, 6, 7, totals(0, 0, 0))
	l = join(penalty(0), kern(1, 0), hyphen(8), kern(2, 0))
	lineIs(t, l, p, 0, 2, totals(8, 0, 0))
	lineIs(t, l, p, 0, len(l), totals(2, 0, 0))
}

func TestP903Disc(t *testing.T) {
	p := params(5)
	// At 1 and at 11; the second one leaves something at the beginning of the line behind it.
	l := join(char(1), disc(char(10), nil, char(100)), kern(1000, 1), char(2), disc(join(char(20), kern(40, 0)), char(200), kern(2000, 0)), kern(4000, 1), char(4))
	first, second, end := 1, 9, len(l)
	legalIs(t, "Discs", l, p, []int{first, second, end}, []int{0, 0, -10000})
	lineIs(t, l, p, -1, first, totals(11, 0, 0))
	lineIs(t, l, p, -1, second, totals(1+100+1000+2+60, 0, 0))
	lineIs(t, l, p, -1, end, totals(1+100+1000+2+2000+4000+4, 0, 0))
	lineIs(t, l, p, first, second, totals(2+60, 0, 0))
	lineIs(t, l, p, first, end, totals(2+2000+4000+4, 0, 0))
	lineIs(t, l, p, second, end, totals(200+4000+4, 0, 0))
	// A second list keeps what falls away, be it of no width; its own Kerns do not fall away.
	for _, behind := range [][]api.Node{char(0), kern(0, 0), box(0, char(9))} {
		l = join(disc(nil, behind, nil), kern(1, 1), skip(2, 3, 4), penalty(0), char(5))
		end = len(l)
		lineIs(t, l, p, 0, end, totals(8, 3, 4))
		lineIs(t, l, p, 0, end-2, totals(3, 3, 4))
		lineIs(t, l, p, 0, end-4, totals(0, 0, 0))
	}
	l = join(disc(nil, nil, nil), kern(1, 1), skip(2, 3, 4), penalty(0), char(5))
	lineIs(t, l, p, 0, len(l), totals(5, 0, 0))
	lineIs(t, l, p, 0, len(l)-2, totals(0, 0, 0))
	l = join(disc(nil, kern(7, 0), nil), kern(1, 1), char(5))
	lineIs(t, l, p, 0, len(l), totals(13, 0, 0))
	// One Disc behind the other, and boxes in them.
	l = join(disc(char(1), char(2), char(4)), disc(char(8), box(16, char(99)), char(32)), disc(char(64), char(128), join(box(256, char(99)), char(512))))
	second, third := 7, 16
	legalIs(t, "Discs", l, p, []int{0, second, third, len(l)}, []int{0, 0, 0, -10000})
	lineIs(t, l, p, -1, 0, totals(1, 0, 0))
	lineIs(t, l, p, 0, second, totals(2+8, 0, 0))
	lineIs(t, l, p, second, third, totals(16+64, 0, 0))
	lineIs(t, l, p, 0, third, totals(2+32+64, 0, 0))
	lineIs(t, l, p, third, len(l), totals(128, 0, 0))
	lineIs(t, l, p, -1, len(l), totals(4+32+256+512, 0, 0))
}

// Sums that are no dimension.
func TestP903Great(t *testing.T) {
	p := with(params(5), func(p *api.Params) {
		p.Left, p.Right = api.Glue{Nat: most, Stretch: most, Shrink: -most}, api.Glue{Nat: most, Stretch: -most, StretchOrder: 3, Shrink: -most}
	})
	l := join(slices.Repeat(char(most), 999), skip(-most, most, most), slices.Repeat(char(most), 1000))
	lineIs(t, l, p, -1, 2000, api.Totals{Nat: 2000 * most, Stretch: [4]int{2 * most, 0, 0, -most}, Shrink: [4]int{-most}})
	lineIs(t, l, p, 999, 2000, api.Totals{Nat: 1002 * most, Stretch: [4]int{most, 0, 0, -most}, Shrink: [4]int{-2 * most}})
	l = disc(slices.Repeat(kern(-most, 0), 600), slices.Repeat(char(most), 700), slices.Repeat(char(most), 690))
	lineIs(t, l, params(5), -1, 0, totals(-600*most, 0, 0))
	lineIs(t, l, params(5), 0, len(l), totals(700*most, 0, 0))
	lineIs(t, l, params(5), -1, len(l), totals(690*most, 0, 0))
	l = slices.Repeat(skip(most, most, most), 2000)
	lineIs(t, l, params(5), -1, 2000, totals(2000*most, 2000*most, 2000*most))
}

func TestP903Random(t *testing.T) {
	r := &random{903}
	for range 400 {
		l, p := r.paragraph(25, unbounded), r.params()
		at, _, _ := plainLegal(l, p)
		for _, from := range append([]int{-1, r.below(len(l) + 2)}, at...) {
			for _, to := range append([]int{-1, r.below(len(l) + 2)}, at...) {
				got, e := breaks.Line(l, p, from, to)
				want, wantE := plainLine(l, p, from, to)
				if got != want || e != wantE {
					t.Fatalf("Line of %v, %v from %d to %d: %v, %d; want %v, %d", l, p, from, to, got, e, want, wantE)
				}
			}
		}
	}
}
