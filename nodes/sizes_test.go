package nodes_test

import (
	"slices"
	"testing"

	"galley/api"
	"galley/nodes"
)

func totals(t *testing.T, name string, l []api.Node, down bool, want api.Totals, e api.Errno) {
	t.Helper()
	if got, g := nodes.Totals(l, down); got != want || g != e {
		t.Errorf("%s: Totals(%d nodes, %v) = %v, %d; want %v, %d", name, len(l), down, got, g, want, e)
	}
}

func extents(t *testing.T, name string, l []api.Node, down bool, a, b int, e api.Errno) {
	t.Helper()
	if x, y, g := nodes.Extent(l, down); x != a || y != b || g != e {
		t.Errorf("%s: Extent(%d nodes, %v) = %d, %d, %d; want %d, %d, %d", name, len(l), down, x, y, g, a, b, e)
	}
}

// natural: totals without glue.
func natural(nat int) api.Totals { return api.Totals{Nat: nat} }

// Each kind by itself, along a row and down a column; what is within counts only of a Disc's third list.
func TestP505Kinds(t *testing.T) {
	for kind, x := range map[int][2]int{
		api.Char: {5, 0}, api.Lig: {6, 0}, api.Rule: {3, 12}, api.HBox: {10, 12}, api.VBox: {20, 11}, api.Kern: {8, 8},
		api.Penalty: {0, 0}, api.Disc: {0, 0}, api.Mark: {0, 0}, api.Ins: {0, 0}, api.Special: {0, 0},
		api.MathOn: {15, 0}, api.MathOff: {16, 0}, api.Adjust: {0, 0},
	} {
		l := placed(plain(kind))
		totals(t, "a kind", l, false, natural(x[0]*pt), api.OK)
		totals(t, "a kind", l, true, natural(x[1]*pt), api.OK)
		for _, n := range []int{api.HBox, api.VBox, api.Ins, api.Adjust} {
			outer := map[int][2]int{api.HBox: {10, 12}, api.VBox: {20, 11}}[n]
			totals(t, "within", around(plain(n), l...), false, natural(outer[0]*pt), api.OK)
			totals(t, "within", around(plain(n), l...), true, natural(outer[1]*pt), api.OK)
		}
	}
	for text, want := range map[string]int{
		"d||a.": 5, "d||afkrhgm.v..": 52, "da|f|.": 0, "da|f|r.": 3, "dhaa.|a|hd||a...": 10, "ad||a.d||k.": 18,
	} {
		totals(t, text, list(text), false, natural(want*pt), api.OK)
		totals(t, text, list(text), true, natural(0), api.OK)
	}
	totals(t, "nil", nil, false, api.Totals{}, api.OK)
	totals(t, "empty", []api.Node{}, true, api.Totals{}, api.OK)
}

// What a Rule leaves to the box counts as 0.
func TestP505Rules(t *testing.T) {
	for sub, want := range [4][2]int{{7, 3}, {0, 3}, {7, 0}, {0, 0}} {
		r := api.Node{Kind: api.Rule, Sub: sub}
		if sub%2 == 0 {
			r.W = 7
		}
		if sub < 2 {
			r.H, r.D = 4, -1
		}
		totals(t, "a Rule", []api.Node{r}, false, natural(want[0]), api.OK)
		totals(t, "a Rule", []api.Node{r}, true, natural(want[1]), api.OK)
	}
}

func skip(nat, stretch, order, shrink, shrinkOrder int) api.Node {
	return api.Node{Kind: api.Skip, Glue: api.Glue{
		Nat: nat, Stretch: stretch, StretchOrder: order, Shrink: shrink, ShrinkOrder: shrinkOrder,
	}}
}

// Glue by its orders, of the list's own Skips.
func TestP505Glue(t *testing.T) {
	l := []api.Node{skip(1, 2, 0, 3, 1), skip(10, 20, 1, 30, 0), skip(100, 200, 2, 300, 3), skip(1000, 2000, 3, 3000, 2), skip(-5, -7, 0, -9, 1), skip(0, 0, 2, 0, 2)}
	want := api.Totals{Nat: 1106, Stretch: [4]int{-5, 20, 200, 2000}, Shrink: [4]int{30, -6, 3000, 300}}
	for _, down := range []bool{false, true} {
		totals(t, "glue", l, down, want, api.OK)
		for _, n := range []int{api.HBox, api.VBox, api.Ins, api.Adjust} {
			outer := plain(n)
			outer.W, outer.H, outer.D, outer.Shift = 0, 0, 0, 0
			totals(t, "glue within", around(outer, l...), down, api.Totals{}, api.OK)
			totals(t, "glue beside", slices.Concat(l, around(outer, l...)), down, want, api.OK)
		}
		ins := api.Node{Kind: api.Ins, Glue: api.Glue{Nat: 5, Stretch: 5, Shrink: 5}}
		totals(t, "an Ins's", around(ins), down, api.Totals{}, api.OK)
		// Stretch and Shrink have no bound, as Nat has.
		far := slices.Repeat([]api.Node{skip(0, most, 2, -most, 3)}, 2000)
		totals(t, "far", far, down, api.Totals{Stretch: [4]int{2: 2000 * most}, Shrink: [4]int{3: -2000 * most}}, api.OK)
	}
	totals(t, "A G", list("ag"), false, api.Totals{Nat: 6 * pt, Stretch: [4]int{2 * pt}, Shrink: [4]int{pt / 2}}, api.OK)
	totals(t, "A G", list("ag"), true, api.Totals{Nat: pt, Stretch: [4]int{2 * pt}, Shrink: [4]int{pt / 2}}, api.OK)
}

// At the bounds: only the end counts, not what it comes to on the way.
func TestP505Bounds(t *testing.T) {
	kern := func(w int) api.Node { return api.Node{Kind: api.Kern, W: w} }
	for _, down := range []bool{false, true} {
		for _, side := range []int{1, -1} {
			end := side * most
			totals(t, "most", []api.Node{kern(end)}, down, natural(end), api.OK)
			totals(t, "most, of two", []api.Node{kern(end - side), kern(side)}, down, natural(end), api.OK)
			totals(t, "one more", []api.Node{kern(end), kern(side)}, down, api.Totals{}, api.ErrArith)
			totals(t, "one more by glue", []api.Node{kern(end), skip(side, 1, 1, 1, 1)}, down, api.Totals{}, api.ErrArith)
			totals(t, "most by glue", []api.Node{skip(end, 0, 0, 0, 0)}, down, natural(end), api.OK)
			totals(t, "there and back", []api.Node{kern(end), kern(end), kern(-end)}, down, natural(end), api.OK)
			totals(t, "glue there, kerns back", []api.Node{skip(end, 0, 0, 0, 0), skip(end, 0, 0, 0, 0), kern(-end)}, down, natural(end), api.OK)
			totals(t, "all there is", slices.Repeat([]api.Node{kern(end)}, 2000), down, api.Totals{}, api.ErrArith)
			totals(t, "half of it back", slices.Concat(slices.Repeat([]api.Node{kern(end)}, 1000), slices.Repeat([]api.Node{kern(-end)}, 1000)), down, api.Totals{}, api.OK)
			box := api.Node{Kind: api.VBox, W: end, H: end, D: side}
			want, e := natural(end), api.OK
			if down {
				want, e = api.Totals{}, api.ErrArith
			}
			totals(t, "a box", around(box), down, want, e)
		}
	}
	two := disc(nil, nil, []api.Node{kern(most), kern(1)})
	totals(t, "a Disc", two, false, api.Totals{}, api.ErrArith)
	totals(t, "a Disc", two, true, api.Totals{}, api.OK)
	totals(t, "a Disc and back", slices.Concat(two, []api.Node{kern(-1)}), false, natural(most), api.OK)
	totals(t, "a Disc's others", disc([]api.Node{kern(most), kern(1)}, []api.Node{kern(most), kern(1)}, nil), false, api.Totals{}, api.OK)
}

func TestP506Kinds(t *testing.T) {
	for kind, x := range map[int][4]int{ // along a row; down a column
		api.Char: {4, 1, 0, 0}, api.Lig: {7, 2, 0, 0}, api.Rule: {9, 3, 3, 3}, api.HBox: {8, 4, 10, 4}, api.VBox: {7, 4, 19, 5},
		api.Skip: {}, api.Kern: {}, api.Penalty: {}, api.Disc: {}, api.Mark: {}, api.Ins: {}, api.Special: {},
		api.MathOn: {}, api.MathOff: {}, api.Adjust: {},
	} {
		l := placed(plain(kind))
		extents(t, "a kind", l, false, x[0]*pt, x[1]*pt, api.OK)
		extents(t, "a kind", l, true, x[2]*pt, x[3]*pt, api.OK)
		for _, n := range []int{api.HBox, api.VBox, api.Ins, api.Adjust} {
			outer := map[int][4]int{api.HBox: {8, 4, 10, 4}, api.VBox: {7, 4, 19, 5}}[n]
			extents(t, "within", around(plain(n), l...), false, outer[0]*pt, outer[1]*pt, api.OK)
			extents(t, "within", around(plain(n), l...), true, outer[2]*pt, outer[3]*pt, api.OK)
		}
	}
	extents(t, "nil", nil, false, 0, 0, api.OK)
	extents(t, "empty", []api.Node{}, true, 0, 0, api.OK)
}

func TestP506Row(t *testing.T) {
	for text, x := range map[string][2]int{
		"afr": {9, 3}, "ah.": {8, 4}, "h.rf": {9, 4}, "gkpms": {0, 0}, "da|r|f.": {7, 2}, "d||ha..a": {8, 4}, "dr|r|.a": {4, 1},
		"d||.": {0, 0}, "d||f.d||r.": {9, 3}, "iha..": {0, 0}, "jha..a": {4, 1},
	} {
		extents(t, text, list(text), false, x[0]*pt, x[1]*pt, api.OK)
	}
	box := func(h, d, shift int) []api.Node {
		return around(api.Node{Kind: api.HBox, H: h, D: d, Shift: shift})
	}
	for _, x := range []struct {
		l    []api.Node
		a, b int
	}{
		{box(5, 3, 2), 3, 5}, {box(5, 3, -2), 7, 1}, {box(5, 3, 9), 0, 12}, {box(5, 3, -9), 14, 0}, {box(-5, -3, 0), 0, 0},
		{slices.Concat(box(5, 3, 2), box(1, 1, -4)), 5, 5}, {slices.Concat(box(1, 1, -4), box(5, 3, 2)), 5, 5},
		{[]api.Node{{Kind: api.Char, H: -1, D: -1}}, 0, 0}, {[]api.Node{{Kind: api.Rule, H: 5, D: -1}, {Kind: api.Lig, H: -1, D: 2, Text: "a"}}, 5, 2},
		{[]api.Node{{Kind: api.Rule, Sub: 1, H: 5, D: 4}, {Kind: api.Rule, Sub: 3}, {Kind: api.Rule, Sub: 2, W: 9}}, 5, 4},
		{disc(nil, nil, box(5, 3, 2)), 3, 5},
	} {
		extents(t, told(x.l), x.l, false, x.a, x.b, api.OK)
	}
}

// Down a column the last item says how deep it is, which may be below 0.
func TestP506Column(t *testing.T) {
	for text, x := range map[string][2]int{
		"r": {3, 3}, "rg": {3, 0}, "gr": {3, 3}, "h.v.": {19, 5}, "v.h.": {19, 4}, "v.r": {19, 3}, "ra": {3, 0}, "hr.": {10, 4},
		"ir.": {0, 0}, "ri.": {3, 0}, "rj.": {3, 0}, "rd||r.": {3, 0}, "rm": {3, 0}, "rp": {3, 0}, "d||r.": {0, 0}, "afkgpms": {0, 0},
	} {
		extents(t, text, list(text), true, x[0]*pt, x[1]*pt, api.OK)
	}
	box := func(w, d, shift int) []api.Node {
		return around(api.Node{Kind: api.VBox, W: w, D: d, Shift: shift})
	}
	for _, x := range []struct {
		l    []api.Node
		a, b int
	}{
		{box(5, 3, 2), 7, 3}, {box(5, -3, -2), 3, -3}, {box(5, 0, -9), 0, 0}, {box(-5, 1, 2), 0, 1}, {box(-5, 1, 9), 4, 1},
		{slices.Concat(box(5, 3, 2), box(6, 4, 0)), 7, 4}, {slices.Concat(box(6, 4, 0), box(5, -most, 2)), 7, -most},
		{slices.Concat(box(5, 3, 2), box(5, 7, -6)), 7, 7},
		{[]api.Node{{Kind: api.Rule, W: -1, H: 5, D: -1}}, 0, -1},
		{[]api.Node{{Kind: api.Rule, Sub: 2, W: 6}}, 6, 0}, {[]api.Node{{Kind: api.Rule, Sub: 1, H: 6, D: 2}}, 0, 2}, {[]api.Node{{Kind: api.Rule, Sub: 3}}, 0, 0},
	} {
		extents(t, told(x.l), x.l, true, x.a, x.b, api.OK)
	}
}

// At the bounds: with its Shift a box may reach farther than a dimension.
func TestP506Bounds(t *testing.T) {
	box := func(w, h, d, shift int) []api.Node {
		return around(api.Node{Kind: api.HBox, W: w, H: h, D: d, Shift: shift})
	}
	extents(t, "most", box(0, most, most, 0), false, most, most, api.OK)
	extents(t, "most up", box(0, most-5, 0, -5), false, most, 0, api.OK)
	extents(t, "most down", box(0, 0, most-5, 5), false, 0, most, api.OK)
	extents(t, "one more up", box(0, most, 0, -1), false, 0, 0, api.ErrArith)
	extents(t, "one more down", box(0, 0, most, 1), false, 0, 0, api.ErrArith)
	extents(t, "twice as much", box(0, most, most, -most), false, 0, 0, api.ErrArith)
	extents(t, "far below 0", box(0, -most, -most, most), false, 0, 0, api.OK)
	extents(t, "one of two", slices.Concat(box(0, 1, 1, 0), box(0, most, 0, -1), box(0, 1, 1, 0)), false, 0, 0, api.ErrArith)
	extents(t, "a Disc's", disc(nil, nil, box(0, most, 0, -1)), false, 0, 0, api.ErrArith)
	extents(t, "a Disc's others", disc(box(0, most, 0, -1), box(0, most, 0, -1), nil), false, 0, 0, api.OK)
	extents(t, "within", around(plain(api.VBox), box(most, most, most, 1)...), false, 7*pt, 4*pt, api.OK)

	extents(t, "most", box(most, 0, most, 0), true, most, most, api.OK)
	extents(t, "most", box(most-5, 0, -most, 5), true, most, -most, api.OK)
	extents(t, "one more", box(most, 0, 5, 1), true, 0, 0, api.ErrArith)
	extents(t, "twice as much", box(most, 0, 5, most), true, 0, 0, api.ErrArith)
	extents(t, "far below 0", box(-most, 0, 5, -most), true, 0, 5, api.OK)
	extents(t, "in a Disc", disc(nil, nil, box(most, 0, 5, 1)), true, 0, 0, api.OK)
	// Down a column no Shift counts for height or depth, along a row none for the width.
	extents(t, "a row's", box(most, 0, most, -1), true, most-1, most, api.OK)
	extents(t, "a column's", box(most, 0, 0, 1), false, 0, 1, api.OK)
}

func TestP505Wrong(t *testing.T) {
	for e, lists := range wrongLists() {
		for _, l := range lists {
			for _, down := range []bool{false, true} {
				totals(t, "wrong", l, down, api.Totals{}, e)
				extents(t, "wrong", l, down, 0, 0, e)
			}
		}
	}
	// The list's error comes ahead of ErrArith.
	kern := api.Node{Kind: api.Kern, W: most}
	totals(t, "too great and no list", []api.Node{kern, kern, {}}, false, api.Totals{}, api.ErrList)
	far := around(api.Node{Kind: api.HBox, H: most, W: most, Shift: -1})
	extents(t, "too great and no list", append(far, api.Node{}), false, 0, 0, api.ErrList)
}

// What trees say, of many lists.
func TestP505Random(t *testing.T) {
	r := &random{505}
	errors := map[api.Errno]int{}
	for _, l := range r.lists(6000) {
		trees, e := grown(l)
		for _, down := range []bool{false, true} {
			if e != api.OK {
				totals(t, told(l), l, down, api.Totals{}, e)
				extents(t, told(l), l, down, 0, 0, e)
				continue
			}
			want, e := totalled(trees, down)
			errors[e]++
			totals(t, told(l), l, down, want, e)
			a, b, e := extended(trees, down)
			errors[e]++
			extents(t, told(l), l, down, a, b, e)
		}
	}
	if errors[api.OK] < 5000 || errors[api.ErrArith] < 100 {
		t.Errorf("too few of a kind: %v", errors)
	}
}
