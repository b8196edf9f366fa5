package breaks_test

import (
	"slices"
	"testing"

	"galley/api"
	"galley/breaks"
)

func TestP902Examples(t *testing.T) {
	legalIs(t, "W", four(), params(65*pt), []int{2, 5, 8, 11}, []int{0, 0, 0, -10000})
}

// breaksAt: just one legal break ahead of the end.
func breaksAt(t *testing.T, name string, l []api.Node, p api.Params, at, penalty int) {
	t.Helper()
	legalIs(t, name, l, p, []int{at, len(l)}, []int{penalty, -10000})
}

func unbroken(t *testing.T, name string, l []api.Node, p api.Params) {
	t.Helper()
	legalIs(t, name, l, p, []int{len(l)}, []int{-10000})
}

func TestP902End(t *testing.T) {
	p := params(5)
	legalIs(t, "nil", nil, p, []int{0}, []int{-10000})
	legalIs(t, "nothing", []api.Node{}, p, []int{0}, []int{-10000})
	unbroken(t, "a Char", char(5), p)
	unbroken(t, "a box", box(5, char(5), skip(1, 1, 1), penalty(0)), p)
}

// staying: items that do not fall away, by name; falling: those that do.
func staying() map[string][]api.Node {
	return map[string][]api.Node{
		"Char": char(1), "Lig": one(api.Node{Kind: api.Lig, Text: "fi"}), "Rule": one(api.Node{Kind: api.Rule, W: 1}), "HBox": box(1),
		"VBox": open(api.Node{Kind: api.VBox}, skip(1, 1, 1)), "Disc": disc(nil, nil, nil), "Mark": mark(), "Ins": insert(skip(1, 1, 1)),
		"Special": one(api.Node{Kind: api.Special}), "Adjust": adjust(penalty(0)),
	}
}

func falling() map[string][]api.Node {
	return map[string][]api.Node{
		"Skip": skip(1, 1, 1), "a font's Kern": kern(1, 0), "Kern": kern(1, 1), "an accent's Kern": kern(1, 2), "Penalty": penalty(10000),
		"MathOn": formula(api.MathOn, 1), "MathOff": formula(api.MathOff, 1),
	}
}

func TestP902Skip(t *testing.T) {
	p := with(params(5), func(p *api.Params) { p.HyphenPenalty, p.ExHyphenPenalty = 10000, 10000 })
	unbroken(t, "a Skip alone", skip(1, 1, 1), p)
	unbroken(t, "a Skip at the beginning", join(skip(1, 1, 1), char(1)), p)
	for name, l := range staying() {
		breaksAt(t, name+" and a Skip", join(l, skip(1, 1, 1), char(1)), p, len(l), 0)
		breaksAt(t, name+" and a Skip at the end", join(l, skip(0, 0, 0)), p, len(l), 0)
		breaksAt(t, name+" and two Skips", join(l, skip(1, 1, 1), skip(1, 1, 1)), p, len(l), 0)
		unbroken(t, "a Skip and "+name, join(skip(1, 1, 1), l), p)
	}
	for name, l := range falling() {
		if name == "Kern" || name == "MathOff" {
			continue // they are breaks themselves
		}
		unbroken(t, name+" and a Skip", join(l, skip(1, 1, 1), char(1)), p)
		unbroken(t, "a Char, "+name+" and a Skip", join(char(1), kern(5, 0), l, skip(1, 1, 1), char(1)), p)
	}
}

func TestP902Kern(t *testing.T) {
	p := with(params(5), func(p *api.Params) { p.HyphenPenalty, p.ExHyphenPenalty = 10000, 10000 })
	breakable := map[string][]api.Node{"Kern": kern(1, 1), "MathOff": formula(api.MathOff, 1), "Kern of 0": kern(0, 1), "MathOff of 0": formula(api.MathOff, 0)}
	for name, l := range breakable {
		breaksAt(t, name+" and a Skip", join(l, skip(1, 1, 1)), p, 0, 0)
		breaksAt(t, "a Char, "+name+" and a Skip", join(char(1), l, skip(1, 1, 1), char(1)), p, 1, 0)
		breaksAt(t, "a box, "+name+" and a Skip", join(box(1, char(1)), l, skip(1, 1, 1), char(1)), p, 3, 0)
		breaksAt(t, "a Skip, "+name+" and a Skip", join(skip(1, 1, 1), l, skip(1, 1, 1), char(1)), p, 1, 0)
		unbroken(t, name+" at the end", join(char(1), l), p)
		for other, m := range staying() {
			unbroken(t, name+" and "+other, join(l, m), p)
			// The Skip is no break of the Kern's.
			if other != "Disc" {
				breaksAt(t, name+", "+other+" and a Skip", join(l, m, skip(1, 1, 1)), p, 1+len(m), 0)
			}
		}
		for other, m := range falling() {
			if other != "Skip" {
				unbroken(t, name+" and "+other, join(l, m), p)
			}
		}
		// Neither a Skip within what is behind it.
		unbroken(t, name+" and a box", join(l, box(1, skip(1, 1, 1))), p)
	}
	for _, sub := range []int{0, 2} {
		unbroken(t, "another Kern and a Skip", join(char(1), kern(1, sub), skip(1, 1, 1), char(1)), p)
	}
	unbroken(t, "MathOn and a Skip", join(char(1), formula(api.MathOn, 1), skip(1, 1, 1), char(1)), p)
	legalIs(t, "a Kern of each kind", join(kern(1, 1), kern(1, 1), skip(1, 1, 1), formula(api.MathOff, 0), skip(1, 1, 1)), p, []int{1, 3, 5}, []int{0, 0, -10000})
}

func TestP902Penalty(t *testing.T) {
	p := params(5)
	for _, q := range []int{0, 1, -1, 9999, -9999, -10000, -10001, -number} {
		breaksAt(t, "a Penalty", penalty(q), p, 0, q)
		breaksAt(t, "a Penalty behind a Char", join(char(1), penalty(q), char(1)), p, 1, q)
		breaksAt(t, "a Penalty behind a Skip", join(skip(1, 1, 1), penalty(q), skip(1, 1, 1)), p, 1, q)
	}
	for _, q := range []int{10000, 10001, number} {
		unbroken(t, "a Penalty", penalty(q), p)
		unbroken(t, "a Penalty and a Skip", join(char(1), penalty(q), skip(1, 1, 1), char(1)), p)
	}
	legalIs(t, "Penalties", slices.Repeat(penalty(7), 3), p, []int{0, 1, 2, 3}, []int{7, 7, 7, -10000})
	unbroken(t, "a Penalty within", join(box(1, penalty(0)), insert(penalty(0)), adjust(penalty(0))), p)
}

func TestP902Disc(t *testing.T) {
	for _, q := range []int{0, 50, -50, 9999, -9999, -10000, -number} {
		p := with(params(5), func(p *api.Params) { p.HyphenPenalty, p.ExHyphenPenalty = q, 77 })
		ex := with(params(5), func(p *api.Params) { p.HyphenPenalty, p.ExHyphenPenalty = 77, q })
		for _, behind := range [][]api.Node{nil, char(1)} {
			for _, without := range [][]api.Node{nil, char(1), box(1, char(1))} {
				l := disc(char(0), behind, without)
				breaksAt(t, "a Disc", l, p, 0, q)
				breaksAt(t, "a Disc", l, ex, 0, 77)
				breaksAt(t, "a Disc of a Kern", join(char(1), disc(kern(0, 0), behind, without)), p, 1, q)
				l = disc(nil, behind, without)
				breaksAt(t, "a Disc without a hyphen", l, p, 0, 77)
				breaksAt(t, "a Disc without a hyphen", l, ex, 0, q)
			}
		}
	}
	for _, q := range []int{10000, number} {
		p := with(params(5), func(p *api.Params) { p.HyphenPenalty, p.ExHyphenPenalty = q, 5 })
		unbroken(t, "a Disc", hyphen(1), p)
		p.HyphenPenalty, p.ExHyphenPenalty = 5, q
		unbroken(t, "a Disc without a hyphen", disc(nil, char(1), char(1)), p)
	}
	l := box(1, hyphen(1), hyphen(1))
	unbroken(t, "a Disc within", l, params(5))
	unbroken(t, "a box of a Disc", adjust(l), params(5))
}

func TestP902Random(t *testing.T) {
	r := &random{902}
	many := 0
	for range 4000 {
		l, p := r.paragraph(40, unbounded), r.params()
		at, penalties, e := breaks.Legal(l, p)
		wantAt, wantPenalties, wantE := plainLegal(l, p)
		if !slices.Equal(at, wantAt) || !slices.Equal(penalties, wantPenalties) || e != wantE {
			t.Fatalf("Legal of %v, %v: %v, %v, %d; want %v, %v, %d", l, p, at, penalties, e, wantAt, wantPenalties, wantE)
		}
		if len(at) > 5 {
			many++
		}
	}
	if many < 1000 {
		t.Errorf("only %d with many breaks", many)
	}
}
