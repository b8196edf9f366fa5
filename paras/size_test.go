package paras_test

import (
	"slices"
	"testing"

	"galley/api"
	"galley/breaks"
	"galley/hyph"
	"galley/nodes"
	"galley/paras"
)

// A paragraph as long as may be, in all passes.
func TestP105Long(t *testing.T) {
	x := good("", params(200, 200))
	x.l = repeat(row("aaa_aab_aba_ba_"), 133)[:1650]
	x.h = hyph.New()
	for pass, p := range []api.Params{
		params(200, 200), with(params(200, 200), func(p *api.Params) { p.Pretolerance = -1 }), with(params(205, 0), func(p *api.Params) { p.Emergency = 100 }),
	} {
		x.p = p
		c, r, e := x.set()
		if e != api.OK || c.Pass != pass+1 || len(r.Lines) < 30 || nodes.Check(r.List) != api.OK {
			t.Errorf("pass %d: %d, %d lines, %d", pass+1, c.Pass, len(r.Lines), e)
		}
	}
	// With so many hyphens as there is room for.
	x.l, x.h = repeat(row("aba_"), 110), patterns("a1b1")
	x.p = with(params(37, 0), func(p *api.Params) { p.HyphenPenalty = 50 })
	c, r, e := x.set()
	if e != api.OK || c.Pass != 2 || len(c.List) < 1500 || len(r.Lines) < 50 || nodes.Check(r.List) != api.OK {
		t.Errorf("hyphens: %d, %d nodes, %d lines, %d", c.Pass, len(c.List), len(r.Lines), e)
	}
}

// As many Discs as may be, and a break at each.
func TestP104Discs(t *testing.T) {
	l := repeat(row("{||}"), 500)
	p := params(0, 0)
	at, _, _ := breaks.Legal(l, p)
	if len(at) != 501 {
		t.Fatal(len(at))
	}
	linesArent(t, "501 Discs", l, p, at, paras.Between{Broken: 1}, api.ErrSize)
	at = slices.Delete(at, 300, 400)
	linesArent(t, "401 lines with penalties", l, p, at, paras.Between{Broken: 1}, api.ErrSize)
	r, e := paras.Lines(l, p, at, paras.Between{})
	if e != api.OK || len(r.Lines) != 401 || len(r.List) != 4*100+3*401 {
		t.Errorf("Discs: %d nodes, %d lines, %d", len(r.List), len(r.Lines), e)
	}
}

// wild: nodes that are seldom a list.
func (r *random) wild() []api.Node {
	l := r.paragraph(3)
	for range r.below(4) {
		n := api.Node{Kind: r.from(-1, 18), W: r.of(0, 0, most, -most, most+1), Sub: r.of(0, 1, 3, -1), Penalty: r.of(0, 0, number, -number-1)}
		if len(l) == 0 || r.chance(3) {
			l = append(l, n)
			continue
		}
		l[r.below(len(l))] = n
	}
	return l
}

// Whatever it is given, each call ends; beside an error all else is zero.
func TestP1Wild(t *testing.T) {
	r := &random{1}
	extreme := func() int {
		return r.of(0, 0, 1, -1, 5, 100, 10000, most, -most, most+1, number, -number, number+1, 1<<62, -1<<63)
	}
	for range 4000 {
		x := r.setting(3)
		if r.chance(2) {
			x.l = r.wild()
		}
		if r.chance(3) {
			x.p.Hsize, x.p.Pretolerance, x.p.Tolerance = extreme(), extreme(), extreme()
		}
		if r.chance(3) {
			x.p.Emergency, x.p.Looseness, x.p.HangAfter = extreme(), r.of(0, 1, -1, extreme()), extreme()
		}
		if r.chance(3) {
			x.p.LinePenalty, x.p.AdjDemerits, x.p.HyphenPenalty = extreme(), extreme(), extreme()
		}
		if r.chance(3) {
			x.b = paras.Between{Line: extreme(), Club: extreme(), Widow: extreme(), Broken: extreme()}
		}
		if r.chance(9) {
			x.h = wrongHyphs()[r.below(3)]
		}
		if r.chance(9) {
			x.s = wrongSetups()[r.below(4)]
		}
		at := []int{extreme(), len(x.l)}
		if l := r.places(x.l, x.p); len(l) > 0 {
			at = append([]int{-1}, l...)
		}
		a := ask(x, append(at, extreme()))
		for i, none := range []bool{len(a.ended) == 0, same(a.tried, paras.Choice{}), len(a.in) == 0, same(a.lines, paras.Result{}), same(a.chosen, paras.Choice{}) && same(a.results, paras.Result{})} {
			if a.errors[i] != api.OK && !none {
				t.Fatalf("call %d of %v at %v: %d, and more", i, x, at, a.errors[i])
			}
		}
	}
}
