package breaks_test

import (
	"slices"
	"testing"

	"galley/api"
	"galley/breaks"
)

// Paragraphs as long as may be.
func TestP907Long(t *testing.T) {
	// All in one line, or one Penalty a line.
	l := slices.Repeat(penalty(0), 2000)
	chooses(t, "Penalties", l, params(0), 0, false, 0, 2000)
	chooses(t, "Penalties, a line more", l, with(params(0), func(p *api.Params) { p.Looseness = 1 }), 0, false, 1, 0, 2000)
	for i := range l {
		l[i].Penalty = -10000
	}
	all := make([]int, 2001)
	for i := range all {
		all[i] = i
	}
	chooses(t, "forced breaks", l, params(0), 0, false, 0, all...)
	chooses(t, "forced breaks", l, params(-1), 0, true, 0, all...)
	for i := range l {
		l[i].Penalty = -20
	}
	chooses(t, "welcome breaks", l, params(0), 0, false, 0, all...)
	for _, n := range []int{1, number} {
		chooses(t, "no more lines than there are breaks", l, with(params(0), func(p *api.Params) { p.Looseness = n }), 0, false, 0, all...)
		l = l[:300]
		all = all[:301]
	}
}

// Words of two nodes, five to a line: 999 breaks.
func TestP907Words(t *testing.T) {
	l := slices.Repeat(join(char(5), skip(3, 1, 1)), 1000)[:1999]
	l = join(l, mark())
	p := with(ragged(37), func(p *api.Params) { p.AdjDemerits = 10000 })
	want := make([]int, 200)
	for i := range want {
		want[i] = 10*(i+1) - 1
	}
	want[199] = 2000
	for _, last := range []bool{false, true} {
		chooses(t, "words", l, p, 100, last, 0, want...)
	}
	// Words too wide, one a line, whatever Looseness asks for.
	every := make([]int, 1000)
	for i := range every {
		every[i] = 2*i + 1
	}
	every[999] = 2000
	p.Hsize = 3
	for _, n := range []int{0, 1, -1, number} {
		p.Looseness = n
		chooses(t, "words too wide", l, p, 10000, true, 0, every...)
		choosesNone(t, "words too wide", l, p, 10000, 0, false, api.ErrBreak)
	}
}

// Demerits, and sizes of lines, as great as may be: nothing wraps round.
func TestP907Great(t *testing.T) {
	p := api.Params{LinePenalty: number, AdjDemerits: number, DoubleHyphenDemerits: number, FinalHyphenDemerits: number, HyphenPenalty: 9999, ExHyphenPenalty: 9999}
	l := slices.Repeat(disc(nil, nil, nil), 500)
	l = slices.Insert(l, len(l), mark()...)
	l = l[4:]
	at, _, _ := breaks.Legal(l, p)
	for range 2 {
		got, e := breaks.Cost(l, p, 10000, 0, at)
		sum := choice{chosen: got}.demerits()
		demerits := 100000000 + 9999*9999
		if want := demerits*499 + 498*p.DoubleHyphenDemerits + 100000000 + p.FinalHyphenDemerits; e != api.OK || sum != want {
			t.Errorf("Cost: %d, %d; want %d", sum, e, want)
		}
		p.DoubleHyphenDemerits, p.FinalHyphenDemerits = -number, -number
	}
	chooses(t, "Discs", l, with(p, func(p *api.Params) { p.DoubleHyphenDemerits = number }), 10000, false, 0, 0, 1997)
	// Each line as much too full as may be.
	wide := slices.Repeat(join(char(most), penalty(-10000)), 1000)
	side := api.Glue{Nat: most, Shrink: -most}
	got := choose(wide, api.Params{Hsize: -most, HangIndent: most, Left: side, Right: side}, most, most, true)
	if got.e != api.OK || len(got.chosen) != 1001 || got.chosen[0].Over != 7*most || got.chosen[1000].Over != 6*most {
		t.Errorf("Choose: %d, %d lines", got.e, len(got.chosen))
	}
	got = choose(join(wide[:1], slices.Repeat(char(most), 1999)), api.Params{Hsize: -most}, 0, most, true)
	if got.e != api.OK || len(got.chosen) != 1 || got.chosen[0].Over != 2001*most {
		t.Errorf("Choose: %v", got)
	}
}
