package breaks_test

import (
	"math"
	"slices"
	"testing"

	"galley/api"
	"galley/breaks"
)

func checkIs(t *testing.T, name string, p api.Params, want api.Errno) {
	t.Helper()
	if e := breaks.Check(p); e != want {
		t.Errorf("Check of %s: %d; want %d", name, e, want)
	}
}

// setting: of one number of parameters.
type setting func(p *api.Params, n int)

// numbers: those that need not be dimensions.
func numbers() map[string]setting {
	return map[string]setting{
		"Pretolerance":         func(p *api.Params, n int) { p.Pretolerance = n },
		"Tolerance":            func(p *api.Params, n int) { p.Tolerance = n },
		"LinePenalty":          func(p *api.Params, n int) { p.LinePenalty = n },
		"HyphenPenalty":        func(p *api.Params, n int) { p.HyphenPenalty = n },
		"ExHyphenPenalty":      func(p *api.Params, n int) { p.ExHyphenPenalty = n },
		"AdjDemerits":          func(p *api.Params, n int) { p.AdjDemerits = n },
		"DoubleHyphenDemerits": func(p *api.Params, n int) { p.DoubleHyphenDemerits = n },
		"FinalHyphenDemerits":  func(p *api.Params, n int) { p.FinalHyphenDemerits = n },
		"Looseness":            func(p *api.Params, n int) { p.Looseness = n },
		"HangAfter":            func(p *api.Params, n int) { p.HangAfter = n },
	}
}

func dimensions() map[string]setting {
	return map[string]setting{
		"Hsize":      func(p *api.Params, n int) { p.Hsize = n },
		"HangIndent": func(p *api.Params, n int) { p.HangIndent = n },
		"Emergency":  func(p *api.Params, n int) { p.Emergency = n },
		"an indent":  func(p *api.Params, n int) { p.Shape = [][2]int{{1, 2}, {n, 3}, {4, 5}} },
		"a width":    func(p *api.Params, n int) { p.Shape = [][2]int{{1, n}, {2, 3}} },
		"the last":   func(p *api.Params, n int) { p.Shape = append(make([][2]int, 1999), [2]int{0, n}) },
	}
}

func TestP902Numbers(t *testing.T) {
	checkIs(t, "zeros", api.Params{}, api.OK)
	all := params(5)
	for name, set := range numbers() {
		for _, n := range []int{number, -number, most + 1, -most - 1, 0, 1} {
			p := params(5)
			set(&p, n)
			set(&all, n)
			checkIs(t, name, p, api.OK)
		}
		for _, n := range []int{number + 1, -number - 1, math.MaxInt, math.MinInt, 1 << 32} {
			p := params(5)
			set(&p, n)
			checkIs(t, name, p, api.ErrArg)
		}
	}
	for name, set := range dimensions() {
		for _, n := range []int{most, -most, 0, 1} {
			p := params(5)
			set(&p, n)
			set(&all, n)
			checkIs(t, name, p, api.OK)
		}
		for _, n := range []int{most + 1, -most - 1, number, -number, math.MaxInt, math.MinInt, 1 << 32} {
			p := params(5)
			set(&p, n)
			checkIs(t, name, p, api.ErrArg)
		}
	}
	checkIs(t, "all", all, api.OK)
}

func TestP902Shape(t *testing.T) {
	for n, want := range map[int]api.Errno{0: api.OK, 1: api.OK, 1999: api.OK, 2000: api.OK, 2001: api.ErrArg, 5000: api.ErrArg} {
		checkIs(t, "a Shape", api.Params{Shape: make([][2]int, n)}, want)
	}
	checkIs(t, "bounds", api.Params{Shape: [][2]int{{most, -most}, {-most, most}}}, api.OK)
}

func rightSides() []api.Glue {
	return []api.Glue{
		{}, {Nat: most, Stretch: most, Shrink: most}, {Nat: -most, Stretch: -most, Shrink: -most},
		{Stretch: 1, StretchOrder: 3}, {Stretch: -1, StretchOrder: 1}, {ShrinkOrder: 1}, {Nat: 5, ShrinkOrder: 3}, {StretchOrder: 3, ShrinkOrder: 3},
	}
}

func wrongSides() []api.Glue {
	return []api.Glue{
		{Nat: most + 1}, {Nat: -most - 1}, {Stretch: most + 1}, {Stretch: math.MinInt}, {Shrink: most + 1}, {Shrink: -most - 1}, {Nat: math.MaxInt},
		{StretchOrder: 4}, {StretchOrder: -1}, {ShrinkOrder: 4}, {ShrinkOrder: -1},
		{Shrink: 1, ShrinkOrder: 1}, {Shrink: -1, ShrinkOrder: 1}, {Shrink: 1, ShrinkOrder: 3}, {Nat: 5, Stretch: 6, Shrink: most, ShrinkOrder: 2},
	}
}

func TestP902Sides(t *testing.T) {
	for _, g := range rightSides() {
		checkIs(t, "Left", api.Params{Left: g}, api.OK)
		checkIs(t, "Right", api.Params{Right: g}, api.OK)
		checkIs(t, "both", api.Params{Left: g, Right: g}, api.OK)
	}
	for _, g := range wrongSides() {
		checkIs(t, "Left", api.Params{Left: g}, api.ErrGlue)
		checkIs(t, "Right", api.Params{Right: g}, api.ErrGlue)
		// Numbers are told of first.
		checkIs(t, "Left and a number", api.Params{Left: g, HangAfter: number + 1}, api.ErrArg)
		checkIs(t, "Right and a dimension", api.Params{Right: g, Hsize: most + 1}, api.ErrArg)
		checkIs(t, "Left and a Shape", api.Params{Left: g, Shape: make([][2]int, 2001)}, api.ErrArg)
	}
}

// errorIs: of each call that is handed a paragraph.
func errorIs(t *testing.T, name string, l []api.Node, p api.Params, want api.Errno) {
	t.Helper()
	for _, wrong := range []int{-1, 0, len(l)} { // what else is wrong comes behind
		at, penalties, e := breaks.Legal(l, p)
		if len(at)+len(penalties) != 0 || e != want {
			t.Errorf("Legal of %s: %v, %v, %d; want %d", name, at, penalties, e, want)
		}
		lineIsnt(t, l, p, wrong, 99, want)
		for _, tolerance := range []int{-1, 100} {
			costIsnt(t, name, l, p, tolerance, 0, []int{wrong}, want)
			choosesNone(t, name, l, p, 0, tolerance, wrong == 0, want)
		}
	}
}

// The parameters' error comes first, then the paragraph's.
func TestP901Errors(t *testing.T) {
	wrongNumber, wrongSide := with(params(65*pt), func(p *api.Params) { p.Emergency = most + 1 }), with(params(65*pt), func(p *api.Params) { p.Right.Nat = most + 1 })
	shrinking := glued(api.Glue{Shrink: 1, ShrinkOrder: 1})
	lists := map[string][]api.Node{
		"W": four(), "nothing": nil, "no list": one(api.Node{Kind: api.End}), "no kind": make([]api.Node, 3), "an open box": box(5)[:1],
		"shrinking": shrinking, "many": slices.Repeat(penalty(0), 2001),
	}
	for name, l := range lists {
		errorIs(t, name+", a number", l, wrongNumber, api.ErrArg)
		errorIs(t, name+", a side", l, wrongSide, api.ErrGlue)
	}
	deep := func(n int) []api.Node {
		return join(slices.Repeat(box(1)[:1], n), slices.Repeat(one(api.Node{Kind: api.End}), n))
	}
	p := params(65 * pt)
	errorIs(t, "no list", lists["no list"], p, api.ErrList)
	errorIs(t, "no kind", lists["no kind"], p, api.ErrList)
	errorIs(t, "an open box", lists["an open box"], p, api.ErrList)
	errorIs(t, "many", lists["many"], p, api.ErrSize)
	errorIs(t, "many, no list", slices.Repeat(one(api.Node{Kind: api.End}), 2001), p, api.ErrSize)
	errorIs(t, "deep", join(deep(41), char(1)), p, api.ErrDeep)
	errorIs(t, "a wrong Char", char(most+1), p, api.ErrList)
	errorIs(t, "a wrong Skip", skip(most+1, 0, 0), p, api.ErrList)
	errorIs(t, "shrinking", shrinking, p, api.ErrGlue)
	errorIs(t, "shrinking, deep", join(shrinking, deep(41)), p, api.ErrDeep)
	errorIs(t, "shrinking, no list", join(shrinking, lists["no list"]), p, api.ErrList)
	legalIs(t, "2000 nodes", slices.Repeat(char(1), 2000), p, []int{2000}, []int{-10000})
	legalIs(t, "40 deep", deep(40), p, []int{80}, []int{-10000})
}

// Only the paragraph's own Skips may not shrink without end.
func TestP901Glue(t *testing.T) {
	p := params(65 * pt)
	for order := 1; order <= 3; order++ {
		for _, shrink := range []int{1, -1, most} {
			g := glued(api.Glue{Nat: 1, Shrink: shrink, ShrinkOrder: order})
			errorIs(t, "a Skip", g, p, api.ErrGlue)
			errorIs(t, "the last Skip", join(four(), g), p, api.ErrGlue)
			inside := join(box(1, g), open(api.Node{Kind: api.VBox}, g), insert(g), adjust(g))
			legalIs(t, "Skips within", inside, p, []int{len(inside)}, []int{-10000})
			l := open(api.Node{Kind: api.Ins, Glue: g[0].Glue})
			legalIs(t, "an insert's glue", l, p, []int{len(l)}, []int{-10000})
		}
		g := glued(api.Glue{Nat: 1, Stretch: most, StretchOrder: order, ShrinkOrder: order})
		legalIs(t, "0 of it", join(char(1), g), p, []int{1, 2}, []int{0, -10000})
	}
}
