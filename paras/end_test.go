package paras_test

import (
	"slices"
	"testing"

	"galley/api"
	"galley/paras"
)

func TestP101End(t *testing.T) {
	end := join(penalty(10000), side(fil(), 15))
	endIs(t, "nothing", nil, fil(), end)
	endIs(t, "words", row("ab_a"), fil(), join(row("ab_a"), end))
	endIs(t, "words with a Skip behind them", row("ab_a_"), fil(), join(row("ab_a"), end))
	endIs(t, "words with two Skips behind them", row("ab_a__"), fil(), join(row("ab_a_"), end))
	endIs(t, "a Skip", row("_"), fil(), end)
	endIs(t, "two Skips", row("__"), fil(), join(row("_"), end))
	// Whatever Skip it is.
	for _, sub := range []int{0, 8, 15, 20} {
		endIs(t, "a Skip from elsewhere", join(row("a"), side(api.Glue{Shrink: 1, ShrinkOrder: 2}, sub)), fil(), join(row("a"), end))
	}
	endIs(t, "what has its end", para("ab"), fil(), join(row("ab"), penalty(10000), end))
}

// Items that are no Skips stay, also those that fall away at breaks, and those that have a Skip within them.
func TestP101Stays(t *testing.T) {
	for _, last := range [][]api.Node{
		kern(3, 1), kern(3, 0), penalty(7), penalty(10000), formula(api.MathOff, 1), mark("m"), row("{-||}"), box(9, row("a_")), adjust(row("_")), insert(row("_")), box(9),
	} {
		endIs(t, "another item", join(row("a_"), last), fil(), join(row("a_"), last, penalty(10000), side(fil(), 15)))
		endIs(t, "another item, and a Skip", join(last, row("_")), fil(), join(last, penalty(10000), side(fil(), 15)))
	}
}

func TestP101Fill(t *testing.T) {
	for _, fill := range []api.Glue{
		{}, gap(), {Nat: -most, Stretch: most, Shrink: -most, StretchOrder: 3, ShrinkOrder: 3}, {StretchOrder: 1}, {Shrink: 1, ShrinkOrder: 1},
	} {
		endIs(t, "a word", row("a_"), fill, join(row("a"), penalty(10000), side(fill, 15)))
	}
}

func wrongGlues() []api.Glue {
	return []api.Glue{
		{Nat: most + 1}, {Nat: -most - 1}, {Stretch: most + 1}, {Stretch: -most - 1}, {Shrink: most + 1}, {Shrink: -most - 1},
		{StretchOrder: 4}, {StretchOrder: -1}, {ShrinkOrder: 4}, {ShrinkOrder: -1},
	}
}

func TestP101Errors(t *testing.T) {
	long := repeat(row("a"), api.MaxNodes)
	for _, fill := range wrongGlues() {
		endIsnt(t, "a word", row("a"), fill, api.ErrGlue)
		endIsnt(t, "nothing", nil, fill, api.ErrGlue)
		endIsnt(t, "as many nodes as may be", long, fill, api.ErrGlue)
	}
	for e, lists := range wrongLists() {
		for _, l := range lists {
			endIsnt(t, "no list", l, fil(), e)
			endIsnt(t, "no list", l, wrongGlues()[0], e)
		}
	}
}

func TestP101Size(t *testing.T) {
	long := repeat(row("a"), api.MaxNodes-1)
	end := join(penalty(10000), side(fil(), 15))
	endIs(t, "1998 nodes", long[:1998], fil(), join(long[:1998], end))
	endIsnt(t, "1999 nodes", long, fil(), api.ErrSize)
	endIs(t, "1998 nodes and a Skip", join(long[:1998], row("_")), fil(), join(long[:1998], end))
	endIsnt(t, "1999 nodes and a Skip", join(long, row("_")), fil(), api.ErrSize)
	// What it does without makes no list of what is none.
	endIsnt(t, "2000 nodes and a Skip", join(long, row("a_")), fil(), api.ErrSize)
	endIsnt(t, "no list, and a Skip that is none", join(row("a"), glued(wrongGlues()[0])), fil(), api.ErrList)
}

func TestP101Random(t *testing.T) {
	r := &random{101}
	for range 2000 {
		l, fill := r.paragraph(5), r.glue()
		if r.chance(9) {
			fill = wrongGlues()[r.below(10)]
		}
		if r.chance(9) && len(l) > 0 {
			l = l[:r.below(len(l))]
		}
		got, e := paras.End(l, fill)
		if want, e2 := plainEnd(l, fill); !slices.Equal(got, want) || e != e2 {
			t.Fatalf("End of %v, %v: %v, %d; want %v, %d", l, fill, got, e, want, e2)
		}
	}
}
