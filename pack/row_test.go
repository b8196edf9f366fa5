package pack_test

import (
	"math"
	"testing"

	"galley/api"
	"galley/pack"
)

func row(l []api.Node, to int, exact bool) packed { return hpack(l, to, exact, 0) }

// The chapter's examples.
func TestP61Examples(t *testing.T) {
	l := join(a(), g(), a())
	rowIs(t, "as it is", row(l, 0, false), api.Node{W: 11 * pt, H: 4 * pt}, l, nil, 0, 0)
	rowIs(t, "wider", row(l, 13*pt, true), api.Node{W: 13 * pt, H: 4 * pt, Sign: 1, Num: 131072, Den: 131072}, l, nil, 100, 0)
	rowIs(t, "too full", row(l, 9*pt, true), api.Node{W: 9 * pt, H: 4 * pt, Sign: 2, Num: 65536, Den: 65536}, l, nil, 1000000, pt)
	rowIs(t, "no glue", row(a(), 8*pt, true), api.Node{W: 8 * pt, H: 4 * pt}, a(), nil, 10000, 0)
	rowIs(t, "a Mark", row(join(a(), mark("m")), 0, false), api.Node{W: 5 * pt, H: 4 * pt}, a(), mark("m"), 0, 0)
	if pack.Over != 1000000 {
		t.Error("Over", pack.Over)
	}
}

// What leaves a row, and what stays, in order.
func TestP61Leaves(t *testing.T) {
	i, m, j := insert(hbox(pt, pt, pt, 0, a(), mark("within"))), mark("m"), adjust(kern(7), mark("n"), insert(g()))
	within := join(kern(7), mark("n"), insert(g()))
	nodes := api.Node{W: 5 * pt, H: 4 * pt}
	rowIs(t, "nothing", row(a(), 0, false), nodes, a(), nil, 0, 0)
	rowIs(t, "an Ins", row(join(i, a()), 0, false), nodes, a(), i, 0, 0)
	rowIs(t, "a Mark", row(join(a(), m), 0, false), nodes, a(), m, 0, 0)
	rowIs(t, "an Adjust", row(join(a(), j), 0, false), nodes, a(), within, 0, 0)
	rowIs(t, "an empty Adjust", row(join(adjust(), a()), 0, false), nodes, a(), nil, 0, 0)
	rowIs(t, "all of them", row(join(m, a(), j, i, m, j), 0, false), nodes, a(), join(m, within, i, m, within), 0, 0)
	rowIs(t, "others between", row(join(j, kern(1), m, kern(2), i, kern(3)), 0, false),
		api.Node{W: 6}, join(kern(1), kern(2), kern(3)), join(within, m, i), 0, 0)
	// Only the row's own leave it, and an Adjust's contents as they are.
	rowIs(t, "two Adjusts", row(adjust(adjust(m), a()), 0, false), api.Node{}, nil, join(adjust(m), a()), 0, 0)
	deep := hbox(pt, 2*pt, 0, 0, m, i, j)
	rowIs(t, "in a box", row(join(deep, m), 0, false), api.Node{W: pt, H: 2 * pt}, deep, m, 0, 0)
	broken := disc(deep, deep, deep)
	rowIs(t, "in a Disc", row(broken, 0, false), api.Node{W: pt, H: 2 * pt}, broken, nil, 0, 0)
	others := join(
		one(api.Node{Kind: api.Penalty, Penalty: 5}), one(api.Node{Kind: api.Special, Text: "s"}),
		one(api.Node{Kind: api.MathOn, W: 2}), one(api.Node{Kind: api.MathOff, W: 3}), rule(3, 0, 0, 0), vbox(4, 0, 0, 0),
		one(api.Node{Kind: api.Lig, Text: "fi", W: 5}), g())
	rowIs(t, "other kinds", row(others, 0, false), api.Node{W: 14 + pt}, others, nil, 0, 0)
}

// A row from which all goes is empty: nothing is set badly there.
func TestP61Empty(t *testing.T) {
	for _, l := range [][]api.Node{nil, {}, mark("m"), adjust(), adjust(a(), g()), join(insert(), mark("m"))} {
		_, out := partedPlainly(l)
		for _, to := range []int{0, 1, -1, most, -most} {
			rowIs(t, "exact", row(l, to, true), api.Node{W: to}, nil, out, 0, 0)
			rowIs(t, "more", row(l, to, false), api.Node{W: to}, nil, out, 0, 0)
		}
	}
	// One that has something is not, though that has no width.
	p := one(api.Node{Kind: api.Penalty})
	rowIs(t, "a Penalty", row(p, 1, true), api.Node{W: 1}, p, nil, 10000, 0)
	rowIs(t, "a Penalty", row(p, -1, true), api.Node{W: -1}, p, nil, pack.Over, 1)
	rowIs(t, "a Penalty", row(p, 0, true), api.Node{}, p, nil, 0, 0)
}

// Glue of each order, stretched and shrunk.
func TestP61Orders(t *testing.T) {
	for order := range 4 {
		l := join(kern(10), skip(5, 6, order, 4, order), skip(0, 2, 0, 0, 0), skip(0, 0, 0, 1, 0))
		n := api.Node{W: 18, Sign: api.Stretching, Order: order, Num: 3, Den: 6}
		bad := 0
		if order == 0 {
			n.Den, bad = 8, 5 // 297 * 3 / 8 is 111, and 111^3 / 2^18 is 5.2
		}
		rowIs(t, "stretching", row(l, 18, true), n, l, nil, bad, 0)
		n.W, n.Num = 215, 200
		if order == 0 {
			bad = 10000
		}
		rowIs(t, "stretching far", row(l, 200, false), n, l, nil, bad, 0)
		n = api.Node{W: 12, Sign: api.Shrinking, Order: order, Num: 3, Den: 4}
		if order == 0 {
			n.Den, bad = 5, 22 // 297 * 3 / 5 is 178, and 178^3 / 2^18 is 21.5
		}
		rowIs(t, "shrinking", row(l, 12, true), n, l, nil, bad, 0)
		n.W, n.Num = 5, 10
		over := 0
		if order == 0 {
			n.Num, bad, over = 5, pack.Over, 5
		}
		rowIs(t, "shrinking far", row(l, -10, false), n, l, nil, bad, over)
		rowIs(t, "as it is", row(l, 15, true), api.Node{W: 15}, l, nil, 0, 0)
	}
	// The greatest order that there is something of is set; a finite one counts for how bad it is only where it is set.
	l := join(kern(9), skip(0, 5, 1, 5, 1), skip(0, 5, 2, 5, 2), skip(0, -5, 2, -5, 2), skip(0, -5, 3, -5, 3))
	rowIs(t, "fil", row(l, 10, true), api.Node{W: 10, Sign: api.Stretching, Order: 1, Num: 1, Den: 5}, l, nil, 0, 0)
	rowIs(t, "fil", row(l, 8, true), api.Node{W: 8, Sign: api.Shrinking, Order: 1, Num: 1, Den: 5}, l, nil, 0, 0)
}

// How bad it is: an excess of 0, and at what the glue can do.
func TestP61Bad(t *testing.T) {
	l := join(kern(1000), skip(0, 100, 0, 100, 0))
	set := func(excess int) api.Node {
		n := api.Node{W: 1000 + excess, Sign: api.Stretching, Num: excess, Den: 100}
		if excess < 0 {
			n.Sign, n.Num = api.Shrinking, min(-excess, 100)
		}
		if excess == 0 {
			n = api.Node{W: 1000}
		}
		return n
	}
	for _, x := range [][3]int{
		{0, 0, 0}, {1, 0, 0}, {17, 0, 0}, {18, 1, 0}, {50, 12, 0}, {99, 97, 0}, {100, 100, 0}, {101, 102, 0}, {200, 800, 0}, {434, 8151, 0}, {435, 10000, 0}, {9999, 10000, 0},
		{-1, 0, 0}, {-17, 0, 0}, {-18, 1, 0}, {-50, 12, 0}, {-99, 97, 0}, {-100, 100, 0}, {-101, pack.Over, 1}, {-102, pack.Over, 2}, {-1000, pack.Over, 900}, {-1500, pack.Over, 1400},
	} {
		rowIs(t, "exact", row(l, 1000+x[0], true), set(x[0]), l, nil, x[1], x[2])
		rowIs(t, "more", row(l, x[0], false), set(x[0]), l, nil, x[1], x[2])
	}
}

// Sums below 0 are as none; they may be above MaxNumber, too.
func TestP61Sums(t *testing.T) {
	for _, below := range [][]api.Node{skip(9, -5, 0, -5, 0), skip(9, 0, 0, 0, 0), skip(9, -5, 1, -5, 3), repeat(skip(3, -most, 0, -most, 0), 3)} {
		rowIs(t, "no stretch", row(below, 10, true), api.Node{W: 10}, below, nil, 10000, 0)
		rowIs(t, "no shrink", row(below, 7, true), api.Node{W: 7}, below, nil, pack.Over, 2)
	}
	// Finite glue below 0 beside infinite glue counts for nothing.
	l := join(skip(9, -5, 0, -5, 0), skip(0, 1, 1, 1, 1))
	rowIs(t, "fil", row(l, 10, true), api.Node{W: 10, Sign: 1, Order: 1, Num: 1, Den: 1}, l, nil, 0, 0)
	rowIs(t, "fil", row(l, 7, true), api.Node{W: 7, Sign: 2, Order: 1, Num: 2, Den: 1}, l, nil, 0, 0)
	for times, bad := range map[int]int{1: 100, 2: 12, 3: 12, 1998: 12} { // from 2 on as of MaxNumber
		sum := times * most
		l := repeat(skip(0, most, 0, most, 0), times)
		rowIs(t, "far", row(l, most, true), api.Node{W: most, Sign: api.Stretching, Num: most, Den: sum}, l, nil, bad, 0)
		rowIs(t, "far back", row(l, -most, true), api.Node{W: -most, Sign: api.Shrinking, Num: most, Den: sum}, l, nil, bad, 0)
	}
	// An excess is twice MaxDimen at most.
	l = join(kern(-most), skip(0, 1, 0, 1, 0))
	rowIs(t, "farthest", row(l, most, true), api.Node{W: most, Sign: api.Stretching, Num: 2 * most, Den: 1}, l, nil, 10000, 0)
	l = join(kern(most), skip(0, 1, 0, 1, 0))
	rowIs(t, "farthest back", row(l, -most, true), api.Node{W: -most, Sign: api.Shrinking, Num: 1, Den: 1}, l, nil, pack.Over, 2*most-1)
	l = join(kern(most), repeat(skip(0, most, 0, most, 0), 3))
	rowIs(t, "farthest back", row(l, -most, true), api.Node{W: -most, Sign: api.Shrinking, Num: 2 * most, Den: 3 * most}, l, nil, 100, 0)
}

// Heights and depths, those of boxes with their shifts, and what a Disc is without a break.
func TestP61Extent(t *testing.T) {
	l := join(char(1, 5, -3), hbox(2, 5, 3, 2), vbox(4, 5, 3, -2))
	rowIs(t, "boxes", row(l, 0, false), api.Node{W: 7, H: 7, D: 5}, l, nil, 0, 0)
	l = join(rule(0, 1, 8, 2), rule(1, 0, 3, 9), rule(2, 16, 0, 0), rule(3, 0, 0, 0))
	rowIs(t, "Rules", row(l, 0, false), api.Node{W: 17, H: 8, D: 9}, l, nil, 0, 0)
	l = char(-1, -5, -3)
	rowIs(t, "below 0", row(l, 0, false), api.Node{W: -1}, l, nil, 0, 0)
	l = join(disc(char(9, 9, 9), char(8, 8, 8), join(char(1, 2, 3), kern(4), rule(0, 10, 1, 1))), kern(100))
	rowIs(t, "a Disc", row(l, 0, false), api.Node{W: 115, H: 2, D: 3}, l, nil, 0, 0)
	// What leaves the row has no say.
	l = join(a(), adjust(char(9*pt, 9*pt, 9*pt), g()), insert(char(9*pt, 9*pt, 9*pt)))
	rowIs(t, "what leaves", row(l, 0, false), api.Node{W: 5 * pt, H: 4 * pt}, a(), join(char(9*pt, 9*pt, 9*pt), g(), insert(char(9*pt, 9*pt, 9*pt))), 0, 0)
}

// Numbers just within a dimension, and just past it.
func TestP61Bounds(t *testing.T) {
	for _, side := range []int{1, -1} {
		end := side * most
		for _, exact := range []bool{true, false} {
			rowIs(t, "to", row(nil, end, exact), api.Node{W: end}, nil, nil, 0, 0)
			for _, to := range []int{end + side, end + 2*side, side << 30, side << 32, side << 62, math.MaxInt, math.MinInt} {
				fails(t, "to", row(nil, to, exact), api.ErrRange)
				fails(t, "to", row(kern(end), to, exact), api.ErrRange)
			}
			l := kern(end)
			fails(t, "Nat", row(join(l, kern(side)), 0, exact), api.ErrArith)
			fails(t, "Nat, by glue", row(join(l, skip(side, 0, 0, 0, 0)), 0, exact), api.ErrArith)
			fails(t, "Nat, there and not back", row(join(l, kern(side)), -side, exact), api.ErrArith)
		}
		l := kern(end)
		rowIs(t, "Nat", row(l, 0, false), api.Node{W: end}, l, nil, 0, 0)
		rowIs(t, "Nat", row(l, end, true), api.Node{W: end}, l, nil, 0, 0)
		fails(t, "W", row(l, side, false), api.ErrArith)
		fails(t, "W", row(kern(side), end, false), api.ErrArith)
		fails(t, "W", row(l, end, false), api.ErrArith)
		l = kern(side)
		want := row(l, end, true)
		rowIs(t, "W", row(l, end-side, false), api.Node{W: end}, l, nil, want.bad, want.over)
	}
	for _, x := range [][4]int{{most, 0, 0, 0}, {0, most, 0, 0}, {most - 1, 0, -1, 0}, {0, most - 1, 1, 0}, {most, 0, -1, 1}, {0, most, 1, 1}, {most, most, most, 1}} {
		l := hbox(0, x[0], x[1], x[2])
		h, d := max(x[0]-x[2], 0), max(x[1]+x[2], 0)
		for _, exact := range []bool{true, false} {
			if x[3] != 0 {
				fails(t, "an extent", row(l, 0, exact), api.ErrArith)
			} else {
				rowIs(t, "an extent", row(l, 0, exact), api.Node{H: h, D: d}, l, nil, 0, 0)
			}
		}
	}
	// Of what leaves the row nothing is too great.
	out := join(kern(most), kern(most), hbox(0, most, most, most))
	rowIs(t, "what leaves", row(adjust(out), 0, false), api.Node{}, nil, out, 0, 0)
}

// What the words say, of many rows.
func TestP61Random(t *testing.T) { againstPlain(t, "Hpack", 61) }

func againstPlain(t *testing.T, name string, seed uint64) {
	t.Helper()
	r := &random{seed}
	do, plain := calls()[name], plainCalls()[name]
	errors, overs, bads := map[api.Errno]int{}, 0, 0
	for _, l := range r.lists(t, 6000) {
		for range 4 {
			to, exact, deepest := r.asked()
			want := plain(l, to, exact, deepest)
			if got := do(l, to, exact, deepest); !got.same(want) {
				t.Errorf("%s of %v, %d, %v, %d: %v; want %v", name, l, to, exact, deepest, got, want)
			}
			errors[want.e]++
			if want.over > 0 {
				overs++
			} else if want.bad > 0 {
				bads++
			}
		}
	}
	if errors[api.OK] < 5000 || errors[api.ErrArith] < 300 || overs < 500 || bads < 500 {
		t.Errorf("too few of a kind: %v, too full %d, bad %d", errors, overs, bads)
	}
}
