package paras_test

import (
	"slices"
	"testing"

	"galley/api"
	"galley/breaks"
	"galley/paras"
)

// right: a line's last Skip, where Right is 0.
func right() []api.Node { return side(api.Glue{}, 9) }

// The chapter's third example.
func TestP103Example(t *testing.T) {
	l := para("a_a_a_a_a_a_a_a_a_a")
	contentsAre(t, "L", l, params(21, 100), -1, 5, row("a_a_a"), right())
	contentsAre(t, "L", l, params(21, 100), 5, 11, row("a_a_a"), right())
	contentsAre(t, "L", l, params(21, 100), 17, 21, row("a"), penalty(10000), side(fil(), 15), right())
	contentsAre(t, "L", l, params(21, 100), -1, 21, l, right())
}

// From the beginning all stays, also what would fall away behind a break.
func TestP103Beginning(t *testing.T) {
	first := join(row("_"), kern(1, 1), kern(2, 0), penalty(10000), formula(api.MathOn, 1), formula(api.MathOff, 2))
	l := join(first, row("_a_b"))
	contentsAre(t, "what falls away", l, api.Params{}, -1, 8, first, row("_a"), right())
	contentsAre(t, "what falls away", l, api.Params{}, -1, 5, first[:5], right())
	contentsAre(t, "what falls away", l, api.Params{}, 5, 8, row("a"), right())
	contentsAre(t, "nothing", nil, api.Params{}, -1, 0, right())
	contentsAre(t, "a Penalty", penalty(5), api.Params{}, -1, 0, right())
	contentsAre(t, "a Penalty", penalty(5), api.Params{}, -1, 1, penalty(5), right())
	contentsAre(t, "a Penalty", penalty(5), api.Params{}, 0, 1, right())
}

// Behind each kind of a break the first items that fall away are left out, and no others.
func TestP103Falls(t *testing.T) {
	away := join(row("_"), kern(1, 1), kern(2, 0), kern(3, 2), penalty(10000), penalty(7), formula(api.MathOn, 1), formula(api.MathOff, 2))
	stays := [][]api.Node{
		row("a"), one(api.Node{Kind: api.Lig, Char: 'f', Text: "fi"}), one(api.Node{Kind: api.Rule, W: 3}), box(5, row("_a")), open(api.Node{Kind: api.VBox}, penalty(3)),
		row("{-|a|b}"), row("{||}"), mark("m"), insert(row("_")), one(api.Node{Kind: api.Special, Text: "s"}), adjust(row("_")),
	}
	ends := []api.Node{{Kind: api.Skip}, {Kind: api.Penalty}, {Kind: api.Kern, Sub: 1}, {Kind: api.MathOff}, {Kind: api.Penalty, Penalty: -10000}}
	for _, first := range stays {
		for _, end := range ends {
			behind := join(away, first, away)
			l := join(row("b"), one(end), row("_"), behind, row("b"))
			contentsAre(t, "a break", l, api.Params{}, 1, len(l), first, away, row("b"), right())
			contentsAre(t, "a break", l, api.Params{}, -1, 1, row("b"), right())
		}
	}
	// To the next break: that is as far as anything falls away.
	l := join(row("a_"), kern(1, 0), penalty(7), kern(2, 0), penalty(8), row("a"))
	contentsAre(t, "breaks among what falls away", l, api.Params{}, 1, 3, right())
	contentsAre(t, "breaks among what falls away", l, api.Params{}, 1, 5, right())
	contentsAre(t, "breaks among what falls away", l, api.Params{}, 3, 5, right())
	contentsAre(t, "breaks among what falls away", l, api.Params{}, 3, 7, row("a"), right())
	contentsAre(t, "breaks among what falls away", l[:6], api.Params{}, 3, 6, right())
}

func TestP103Disc(t *testing.T) {
	l := row("ab{-||}_c_{|ab|ca}__{c-||b}d{-a||}e")
	first, second, third, fourth := 2, 10, 20, 28
	for i, at := range []int{first, second, third, fourth} {
		if l[at].Kind != api.Disc {
			t.Fatalf("Disc %d: %v", i, l[at])
		}
	}
	end := len(l)
	p := api.Params{}
	// To a Disc: its first list stands there.
	contentsAre(t, "Discs", l, p, -1, first, row("ab-"), right())
	contentsAre(t, "Discs", l, p, -1, second, row("ab{-||}_c_"), right())
	contentsAre(t, "Discs", l, p, -1, third, row("ab{-||}_c_{|ab|ca}__c-"), right())
	// From a Disc: its second list; what falls away does so if that is empty.
	contentsAre(t, "Discs", l, p, first, 9, row("c"), right())
	contentsAre(t, "Discs", l, p, second, end, row("ab__{c-||b}d{-a||}e"), right())
	contentsAre(t, "Discs", l, p, second, 18, row("ab"), right())
	contentsAre(t, "Discs", l, p, third, end, row("d{-a||}e"), right())
	// From one to another.
	contentsAre(t, "Discs", l, p, first, second, row("c_"), right())
	contentsAre(t, "Discs", l, p, second, third, row("ab__c-"), right())
	contentsAre(t, "Discs", l, p, third, fourth, row("d-a"), right())
	contentsAre(t, "Discs", l, p, first, fourth, row("c_{|ab|ca}__{c-||b}d-a"), right())
	contentsAre(t, "Discs beside each other", row("{-|b|}{a-|c|}"), p, 0, 6, row("ba-"), right())
	contentsAre(t, "Discs beside each other", row("{-||}{a-|c|}"), p, 0, 5, row("a-"), right())
	contentsAre(t, "Discs beside each other", row("{-||}{||}a"), p, 5, 10, row("a"), right())
	// What falls away does not reach into a Disc, nor past one.
	contentsAre(t, "what falls away", row("a_{||}_a"), p, 1, 8, row("{||}_a"), right())
	// A second list of what falls away stays.
	l = join(row("{|"), kern(3, 1), row("|}_a"))
	contentsAre(t, "a Disc with a Kern", l, p, 0, len(l), kern(3, 1), row("_a"), right())
}

func TestP103Sides(t *testing.T) {
	l := row("ab_c{-|b|}c")
	for _, right := range []api.Glue{{}, gap(), {StretchOrder: 1}, {Nat: -most, Stretch: -1, Shrink: most, StretchOrder: 3}} {
		for _, left := range []api.Glue{{Nat: 1}, {Nat: -1}, {Stretch: 1}, {Shrink: 1}, {StretchOrder: 1}, {ShrinkOrder: 1}, gap(), {Nat: most, Stretch: most, Shrink: most, StretchOrder: 3}} {
			p := api.Params{Left: left, Right: right}
			contentsAre(t, "with sides", l, p, -1, 2, side(left, 8), row("ab"), side(right, 9))
			contentsAre(t, "with sides", l, p, 2, 4, side(left, 8), row("c-"), side(right, 9))
			contentsAre(t, "with sides", l, p, 4, len(l), side(left, 8), row("bc"), side(right, 9))
		}
		p := api.Params{Right: right}
		contentsAre(t, "with a right side", l, p, -1, 2, row("ab"), side(right, 9))
		contentsAre(t, "with a right side", l, p, 4, len(l), row("bc"), side(right, 9))
	}
}

func TestP103None(t *testing.T) {
	l := para("ab_c{-|b|}c")
	end := len(l)
	for _, w := range [][2]int{
		{-2, 2}, {-number, 2}, {0, 2}, {1, 2}, {3, 4}, {5, end}, {9, end}, {11, end}, {12, end}, {end, end}, {end + 1, end}, {number, end},
		{-1, -1}, {-1, -2}, {-1, 0}, {-1, 1}, {-1, 3}, {-1, 5}, {-1, 11}, {-1, 12}, {-1, end + 1}, {-1, number}, {2, 2}, {4, 2}, {4, 4}, {end, -1}, {2, -1},
	} {
		contentsArent(t, "what is no line", l, api.Params{}, w[0], w[1], api.ErrNone)
	}
	contentsArent(t, "a Disc that is no break", l, api.Params{HyphenPenalty: 10000}, -1, 4, api.ErrNone)
	contentsArent(t, "nothing", nil, api.Params{}, -1, 1, api.ErrNone)
	contentsArent(t, "nothing", nil, api.Params{}, 0, 0, api.ErrNone)
	contentsArent(t, "a Skip within a box", box(3, row("a_a")), api.Params{}, -1, 2, api.ErrNone)
}

func TestP103Errors(t *testing.T) {
	for e, all := range wrongParams() {
		for _, p := range all {
			contentsArent(t, "parameters", two(), p, -1, 13, e)
			contentsArent(t, "parameters ahead of a list", row("}"), p, -1, 5, e)
			contentsArent(t, "parameters ahead of places", endless(), p, 5, 5, e)
		}
	}
	for e, lists := range wrongLists() {
		for _, l := range lists {
			contentsArent(t, "a list", l, params(9, 0), -1, len(l), e)
			contentsArent(t, "a list ahead of places", l, params(9, 0), 5, 5, e)
		}
	}
	contentsArent(t, "a paragraph", endless(), params(9, 0), -1, 4, api.ErrGlue)
	contentsArent(t, "a paragraph ahead of places", endless(), params(9, 0), 7, 2, api.ErrGlue)
}

// A line may have more nodes than a list may.
func TestP103Size(t *testing.T) {
	l := repeat(row("a"), api.MaxNodes)
	contentsAre(t, "a long line", l, api.Params{}, -1, 2000, l, right())
	contentsAre(t, "a long line", l, api.Params{Left: gap()}, -1, 2000, side(gap(), 8), l, right())
	l = join(repeat(row("a"), 1989), row("{aaa|aaa|}"))
	contentsAre(t, "a long line", l, api.Params{}, -1, 1999, l, right())
	contentsAre(t, "a long line", l, api.Params{}, -1, 1989, l[:1989], row("aaa"), right())
}

func TestP103Random(t *testing.T) {
	r := &random{103}
	found := 0
	for range 4000 {
		l, p := r.paragraph(8), r.params()
		at, _, _ := breaks.Legal(l, p)
		if len(at) == 0 {
			continue
		}
		from, to := append([]int{-1}, at...)[r.below(len(at))], at[r.below(len(at))]
		if r.chance(9) {
			from, to = r.from(-2, len(l)+1), r.from(-2, len(l)+1)
		}
		got, e := paras.Contents(l, p, from, to)
		want, e2 := plainContents(l, p, from, to)
		if !slices.Equal(got, want) || e != e2 {
			t.Fatalf("Contents of %s, %v from %d to %d: %s, %d; want %s, %d", told(l), p, from, to, told(got), e, told(want), e2)
		}
		if e == api.OK {
			found++
		}
	}
	if found < 1300 {
		t.Errorf("only %d lines", found)
	}
}
