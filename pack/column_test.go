package pack_test

import (
	"math"
	"testing"

	"galley/api"
	"galley/pack"
)

// The chapter's examples.
func TestP62Examples(t *testing.T) {
	fails(t, "a Char", vpack(a(), 0, false, 0), api.ErrList)
	l := hbox(9*pt, 4*pt, 2*pt, 0)
	columnIs(t, "Vpack", vpack(l, 0, false, pt), api.Node{W: 9 * pt, H: 5 * pt, D: pt}, l, 0, 0)
	columnIs(t, "Vtop", vtop(l, 0, false, pt), api.Node{W: 9 * pt, H: 4 * pt, D: 2 * pt}, l, 0, 0)
}

// unlike: an item of each kind.
func unlike() map[int][]api.Node {
	return map[int][]api.Node{
		api.Char: char(1, 2, 4), api.Lig: one(api.Node{Kind: api.Lig, Text: "fi"}), api.Rule: rule(0, 1, 2, 4),
		api.HBox: hbox(1, 2, 4, 0, a()), api.VBox: vbox(1, 2, 4, 0, a()), api.Skip: skip(6, 0, 0, 0, 0), api.Kern: kern(6),
		api.Penalty: one(api.Node{Kind: api.Penalty}), api.Disc: disc(nil, nil, nil), api.Mark: mark("m"), api.Ins: insert(a()),
		api.Special: one(api.Node{Kind: api.Special}), api.MathOn: one(api.Node{Kind: api.MathOn}), api.MathOff: one(api.Node{Kind: api.MathOff}),
		api.Adjust: adjust(kern(1)),
	}
}

// What may stand in a column, and what may not, wherever in it; within items anything may.
func TestP62Kinds(t *testing.T) {
	wrong := map[int]bool{api.Char: true, api.Lig: true, api.Disc: true, api.MathOn: true, api.MathOff: true, api.Adjust: true}
	for kind, l := range unlike() {
		for name, do := range map[string]call{"Vpack": vpack, "Vtop": vtop} {
			for _, whole := range [][]api.Node{l, join(kern(1), l), join(l, kern(1)), join(hbox(0, 0, 0, 0, a()), l, insert(a()))} {
				got := do(whole, 0, false, most)
				if wrong[kind] {
					fails(t, name+" of what no column has", got, api.ErrList)
				} else if got.e != api.OK {
					t.Errorf("%s of the kind %d: %v", name, kind, got)
				}
			}
			for _, whole := range [][]api.Node{hbox(0, 0, 0, 0, l), vbox(0, 0, 0, 0, l), insert(l)} {
				if got := do(whole, 0, false, most); got.e != api.OK {
					t.Errorf("%s of the kind %d within: %v", name, kind, got)
				}
			}
		}
		size := map[int]int{api.Rule: 2, api.HBox: 2, api.VBox: 2, api.Skip: 6, api.Kern: 6}[kind]
		if n := (api.Node{H: size}); !wrong[kind] {
			if size == 2 {
				n.W, n.D = 1, 4
			}
			columnIs(t, "a kind", vpack(l, 0, false, most), n, l, 0, 0)
		}
	}
}

// The last item is less deep than it may be, as deep, and deeper.
func TestP62Depth(t *testing.T) {
	for _, depth := range []int{-3, 0, 4, most - 10} {
		for _, l := range [][]api.Node{hbox(1, 10, depth, 0), vbox(1, 10, depth, 0), rule(0, 1, 10, depth)} {
			for _, over := range []int{-9, -1, 0, 1, 9} {
				deepest := min(depth-over, most)
				h, d := 10+max(depth-deepest, 0), min(depth, deepest)
				columnIs(t, "the last item", vpack(l, 0, false, deepest), api.Node{W: 1, H: h, D: d}, l, 0, 0)
				long := join(kern(3), l)
				if depth < 100 {
					columnIs(t, "the last of two", vpack(long, 0, false, deepest), api.Node{W: 1, H: h + 3, D: d}, long, 0, 0)
				}
			}
		}
	}
	box := hbox(1, 10, 4, 0)
	for _, last := range [][]api.Node{kern(5), skip(5, 0, 0, 0, 0)} {
		l := join(box, last)
		columnIs(t, "not the last", vpack(l, 0, false, most), api.Node{W: 1, H: 19}, l, 0, 0)
		columnIs(t, "not the last", vpack(l, 0, false, 0), api.Node{W: 1, H: 19}, l, 0, 0)
		columnIs(t, "below 0", vpack(l, 0, false, -2), api.Node{W: 1, H: 21, D: -2}, l, 0, 0)
	}
	for _, last := range [][]api.Node{mark("m"), insert(a()), one(api.Node{Kind: api.Penalty})} {
		l := join(box, last)
		columnIs(t, "not the last", vpack(l, 0, false, most), api.Node{W: 1, H: 14}, l, 0, 0)
	}
	l := rule(2, 3, 0, 0)
	columnIs(t, "a Rule without a depth", vpack(l, 0, false, 5), api.Node{W: 3}, l, 0, 0)
	columnIs(t, "nothing", vpack(nil, 0, false, 5), api.Node{}, nil, 0, 0)
	columnIs(t, "nothing", vpack(nil, 7, true, -5), api.Node{H: 7, D: -5}, nil, 0, 0)
}

// Widths, with shifts.
func TestP62Width(t *testing.T) {
	l := join(hbox(5, 0, 0, 3), vbox(9, 0, 0, -3), rule(0, 7, 0, 0), rule(1, 0, 0, 0), kern(99))
	columnIs(t, "boxes", vpack(l, 0, false, 0), api.Node{W: 8, H: 99}, l, 0, 0)
	l = join(hbox(-5, 0, 0, 3), kern(1))
	columnIs(t, "below 0", vpack(l, 0, false, 0), api.Node{H: 1}, l, 0, 0)
}

// How it is set: the depth counts for nothing in that.
func TestP62Set(t *testing.T) {
	for order := range 4 {
		l := join(hbox(0, 100, 5, 0), skip(10, 20, order, 20, order), hbox(0, 100, 40, 0))
		for _, deepest := range []int{40, 50, 25, 0, -10} {
			depth := min(40, deepest)
			natural := 255 - depth
			set := func(to, excess int, exact bool, bad, over int) {
				t.Helper()
				n := api.Node{H: natural + excess, D: depth, Sign: api.Stretching, Order: order, Num: excess, Den: 20}
				if excess < 0 {
					n.Sign, n.Num = api.Shrinking, -excess
				}
				if order > 0 {
					bad, over = 0, 0
				} else if excess < -20 {
					n.Num = 20
				}
				if excess == 0 {
					n.Sign, n.Order, n.Num, n.Den = 0, 0, 0, 0
				}
				columnIs(t, "set", vpack(l, to, exact, deepest), n, l, bad, over)
			}
			for _, x := range [][3]int{{0, 0, 0}, {20, 100, 0}, {10, 12, 0}, {99, 10000, 0}, {-10, 12, 0}, {-20, 100, 0}, {-21, pack.Over, 1}, {-99, pack.Over, 79}} {
				set(natural+x[0], x[0], true, x[1], x[2])
				set(x[0], x[0], false, x[1], x[2])
			}
		}
	}
	box := hbox(1, 10, 0, 0)
	columnIs(t, "no glue", vpack(box, 12, true, 0), api.Node{W: 1, H: 12}, box, 10000, 0)
	columnIs(t, "no glue", vpack(box, 7, true, 0), api.Node{W: 1, H: 7}, box, pack.Over, 3)
	l := join(box, skip(0, -1, 0, -1, 0))
	columnIs(t, "below 0", vpack(l, 12, true, 0), api.Node{W: 1, H: 12}, l, 10000, 0)
	columnIs(t, "below 0", vpack(l, 7, true, 0), api.Node{W: 1, H: 7}, l, pack.Over, 3)
	for _, to := range []int{0, 5, -5} {
		columnIs(t, "empty", vpack(nil, to, true, 0), api.Node{H: to}, nil, 0, 0)
		columnIs(t, "empty", vpack(nil, to, false, 0), api.Node{H: to}, nil, 0, 0)
	}
}

// Numbers just within a dimension, and just past it.
func TestP62Bounds(t *testing.T) {
	for name, do := range map[string]call{"Vpack": vpack, "Vtop": vtop} {
		for _, side := range []int{1, -1} {
			end := side * most
			for _, exact := range []bool{true, false} {
				for _, far := range []int{end + side, side << 30, side << 32, side << 62, math.MaxInt, math.MinInt} {
					fails(t, name+" to", do(nil, far, exact, 0), api.ErrRange)
					fails(t, name+" most", do(nil, 0, exact, far), api.ErrRange)
					fails(t, name+" both", do(kern(1), far, exact, far), api.ErrRange)
				}
				fails(t, name+" Nat", do(join(kern(end), kern(side)), 0, exact, 0), api.ErrArith)
				fails(t, name+" W", do(hbox(most, 0, 0, 1), 0, exact, 0), api.ErrArith)
			}
			fails(t, name+" H", do(kern(end), side, false, 0), api.ErrArith)
			fails(t, name+" H", do(kern(side), end, false, 0), api.ErrArith)
			// However high it is made: what it comes to without its depth must be a dimension.
			fails(t, name+" n", do(kern(most), 0, true, -1), api.ErrArith)
			fails(t, name+" n", do(join(kern(-most), rule(0, 0, -5, 5)), 0, true, 5), api.ErrArith)
		}
	}
	for _, end := range []int{most, -most} {
		l := kern(end)
		columnIs(t, "Nat", vpack(l, 0, false, 0), api.Node{H: end}, l, 0, 0)
		columnIs(t, "to", vpack(nil, end, true, 0), api.Node{H: end}, nil, 0, 0)
		columnIs(t, "to", vpack(nil, end, false, 0), api.Node{H: end}, nil, 0, 0)
	}
	columnIs(t, "most", vpack(nil, 0, true, most), api.Node{}, nil, 0, 0)
	columnIs(t, "most", vpack(nil, 0, true, -most), api.Node{D: -most}, nil, 0, 0)
	l := join(kern(-most), rule(0, 0, -5, 5))
	columnIs(t, "n", vpack(l, 0, false, 0), api.Node{H: -most}, l, 0, 0)
	l = hbox(most-1, 0, 0, 1)
	columnIs(t, "W", vpack(l, 0, false, 0), api.Node{W: most}, l, 0, 0)
}

func TestP62Random(t *testing.T) { againstPlain(t, "Vpack", 62) }

// A column hangs by its first item, if that has a height.
func TestP63(t *testing.T) {
	for _, x := range []struct {
		first  []api.Node
		height int
	}{
		{rule(0, 1, 8, 2), 8}, {rule(1, 0, 8, 2), 8}, {rule(2, 1, 0, 0), 0}, {rule(3, 0, 0, 0), 0}, {rule(0, 1, -8, 2), -8},
		{hbox(1, 8, 2, 3), 8}, {vbox(1, 8, 2, -3), 8}, {hbox(1, -8, 2, 0, hbox(1, 5, 0, 0)), -8},
		{kern(8), 0}, {skip(8, 0, 0, 0, 0), 0}, {mark("m"), 0}, {insert(hbox(0, 8, 0, 0)), 0}, {nil, 0},
		{one(api.Node{Kind: api.Penalty}), 0}, {one(api.Node{Kind: api.Special}), 0},
	} {
		for _, rest := range [][]api.Node{nil, kern(5), join(skip(0, 9, 0, 9, 0), rule(0, 6, 50, 7)), hbox(6, 50, -7, 0)} {
			l := join(x.first, rest)
			for _, to := range []int{0, 4, -4, 100} {
				for _, exact := range []bool{true, false} {
					for _, deepest := range []int{0, 5, -5, most} {
						under := vpack(l, to, exact, deepest)
						n := under.node()
						height := x.height
						if x.first == nil && len(rest) > 0 && (rest[0].Kind == api.HBox) {
							height = 50
						}
						n.H, n.D = height, n.H+n.D-height
						columnIs(t, "Vtop", vtop(l, to, exact, deepest), n, l, under.bad, under.over)
					}
				}
			}
		}
	}
}

func TestP63Bounds(t *testing.T) {
	for _, side := range []int{1, -1} {
		end := side * most
		l := rule(0, 0, -side*5, 0)
		for name, x := range map[string][2]int{"least": {end - side*5, 0}, "less": {end - side*6, side}} {
			columnIs(t, name, vtop(l, x[0], true, 0), api.Node{H: -side * 5, D: end - x[1]}, l, vpack(l, x[0], true, 0).bad, vpack(l, x[0], true, 0).over)
		}
		fails(t, "one more", vtop(l, end-side*4, true, 0), api.ErrArith)
		fails(t, "far more", vtop(l, end, true, 0), api.ErrArith)
		if got := vpack(l, end, true, 0); got.e != api.OK {
			t.Errorf("Vpack of that: %v", got)
		}
	}
	// H and D together may be more than a dimension, as long as less of it hangs below.
	l := join(rule(0, 0, 9, 0), kern(-9), rule(0, 0, 0, 9))
	columnIs(t, "both", vtop(l, most, true, 9), api.Node{H: 9, D: most}, l, 10000, 0)
	fails(t, "both", vtop(join(kern(0), rule(0, 0, 0, 9)), most, true, 9), api.ErrArith)
}

func TestP63Random(t *testing.T) { againstPlain(t, "Vtop", 63) }
