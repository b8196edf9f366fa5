package vlist_test

import (
	"testing"

	"galley/api"
)

// Of glue all but the natural size comes with it.
func plus(n int) api.Glue {
	return api.Glue{Nat: n, Stretch: 4, Shrink: -3, StretchOrder: 2, ShrinkOrder: 3}
}

func tight() api.Glue {
	return api.Glue{Nat: 1, Stretch: 5, Shrink: 6, StretchOrder: 3, ShrinkOrder: 1}
}

func TestP1102Between(t *testing.T) {
	b := box(7, 2, char())
	appends(t, "a line", 2, b, plus(12), tight(), 0, join(of(plus(3), 2), b), 2)
	appends(t, "a line that is too near", 6, b, plus(12), tight(), 0, join(of(tight(), 1), b), 2)
	appends(t, "a line in a VBox", 2, vbox(3, -4), plus(12), tight(), 0, join(of(plus(7), 2), vbox(3, -4)), -4)
	appends(t, "a line above which something is low", -9, b, plus(12), tight(), 0, join(of(plus(14), 2), b), 2)
	appends(t, "a line that hangs", 2, box(-7, 0), plus(12), tight(), 0, join(of(plus(17), 2), box(-7, 0)), 0)
	appends(t, "no glue", 0, box(0, 0), api.Glue{}, api.Glue{}, 0, join(of(api.Glue{}, 2), box(0, 0)), 0)
	orders := api.Glue{StretchOrder: 3, ShrinkOrder: 2}
	appends(t, "orders of nothing", 0, box(0, 0), orders, tight(), 0, join(of(orders, 2), box(0, 0)), 0)
	appends(t, "orders of nothing", 0, box(1, 0), api.Glue{}, orders, 0, join(of(orders, 1), box(1, 0)), 0)
}

// Just at the limit baseline holds, one below it line.
func TestP1102Limit(t *testing.T) {
	b := box(7, 2)
	for _, limit := range []int{0, 1, -1, 20, -20, most, -most} {
		for _, by := range []int{-2, -1, 0, 1, 2} {
			before := 12 - 7 - limit - by // so that x is limit and by
			x := limit + by
			switch {
			case before < -most || before > most:
				continue
			case before <= none:
				appends(t, "none", before, b, plus(12), tight(), limit, b, 2)
			case x > most || x < -most:
				appendsNot(t, "what is no dimension", before, b, plus(12), tight(), limit, api.ErrArith)
			case by < 0:
				appends(t, "below the limit", before, b, plus(12), tight(), limit, join(of(tight(), 1), b), 2)
			default:
				appends(t, "from the limit on", before, b, plus(12), tight(), limit, join(of(plus(x), 2), b), 2)
			}
		}
	}
	appends(t, "the greatest limit", 0, box(0, 0), nat(most), tight(), most, join(of(nat(most), 2), box(0, 0)), 0)
	appends(t, "below the greatest limit", 0, box(0, 0), nat(most-1), tight(), most, join(of(tight(), 1), box(0, 0)), 0)
	appends(t, "the least limit", 0, box(0, 0), nat(-most), tight(), -most, join(of(nat(-most), 2), box(0, 0)), 0)
}

func TestP1102None(t *testing.T) {
	b := box(7, 2, char())
	for _, before := range []int{none, none - 1, none - 2, -most, -most + 1} {
		appends(t, "the first line", before, b, plus(12), tight(), 0, b, 2)
		appends(t, "the first line, whatever the glue", before, box(most, most), nat(-most), nat(most), most, box(most, most), most)
	}
	for _, before := range []int{none + 1, none + 2} {
		appends(t, "a line", before, b, plus(12), tight(), 0, join(of(plus(5-before), 2), b), 2)
	}
}

// An x that is no dimension is an error, below the limit, too.
func TestP1102Arith(t *testing.T) {
	appends(t, "the greatest x", -1, box(1, 0), nat(most), nat(0), 0, join(of(nat(most), 2), box(1, 0)), 0)
	appendsNot(t, "one more", -2, box(1, 0), nat(most), nat(0), 0, api.ErrArith)
	appendsNot(t, "one more", 0, box(-1, 0), nat(most), nat(0), most, api.ErrArith)
	appends(t, "the least x", 0, box(most, 0), nat(0), nat(0), -most, join(of(nat(-most), 2), box(most, 0)), 0)
	appends(t, "the least x, below the limit", 0, box(most, 0), nat(0), nat(5), 0, join(of(nat(5), 1), box(most, 0)), 0)
	appendsNot(t, "one less", 1, box(most, 0), nat(0), nat(5), 0, api.ErrArith)
	appendsNot(t, "one less", 0, box(most, 0), nat(-1), nat(5), -most, api.ErrArith)
	appendsNot(t, "far less", most, box(most, 0), nat(-most), nat(5), 0, api.ErrArith)
	appendsNot(t, "far more", none+1, box(-most, 0), nat(most), nat(5), 0, api.ErrArith)
}

func TestP1102Wrong(t *testing.T) {
	b := box(7, 2)
	for _, n := range far() {
		appendsNot(t, "no dimension before", n, b, nat(12), nat(1), 0, api.ErrRange)
		appendsNot(t, "no limit", 2, b, nat(12), nat(1), n, api.ErrRange)
		appendsNot(t, "no limit, where none is wanted", none, b, nat(12), nat(1), n, api.ErrRange)
	}
	for _, g := range wrongGlue() {
		for _, before := range []int{2, 20, none} {
			appendsNot(t, "a baseline that is no glue", before, b, g, nat(1), 0, api.ErrGlue)
			appendsNot(t, "a line that is no glue", before, b, nat(12), g, 0, api.ErrGlue)
		}
	}
	for e, lists := range wrongLists() {
		for _, l := range lists {
			appendsNot(t, "no list", 2, l, nat(12), nat(1), 0, e)
			appendsNot(t, "no list, first of all", none, l, nat(12), nat(1), 0, e)
		}
	}
	for _, l := range append(wrongItems(), nil, []api.Node{}, rule(7, 2), skip(1, 0, 0), kern(1), penalty(0), mark("m"), special("s"), insert(b), join(b, b), join(b, kern(0)), join(mark("m"), b), join(skip(0, 0, 0), b)) {
		for _, before := range []int{2, none} {
			appendsNot(t, "no box", before, l, nat(12), nat(1), 0, api.ErrArg)
		}
	}
}

// What a box holds is its own: it may be no column. Between lines glue may shrink without end.
func TestP1102Within(t *testing.T) {
	for _, item := range wrongItems() {
		b := box(7, 2, item)
		appends(t, "what stands in a row", 2, b, nat(12), nat(1), 0, join(of(nat(3), 2), b), 2)
	}
	for _, g := range endless() {
		b := vbox(7, 2, glued(g))
		appends(t, "endless glue", 2, b, plus(12), g, 4, join(of(g, 1), b), 2)
		less := g
		less.Nat = -4
		appends(t, "endless glue", 2, b, g, plus(12), -4, join(of(less, 2), b), 2)
	}
}

// Which error comes first, when several things are wrong.
func TestP1102First(t *testing.T) {
	bad, noBox := nat(most+1), col("bb")
	for e, lists := range wrongLists() {
		for _, l := range lists {
			appendsNot(t, "all wrong", most+1, l, bad, bad, most+1, api.ErrRange)
			appendsNot(t, "all wrong but the limit", most+1, l, bad, bad, 0, api.ErrRange)
			appendsNot(t, "all wrong but before", 0, l, bad, bad, -most-1, api.ErrRange)
			appendsNot(t, "no glue, no list", 0, l, bad, bad, 0, api.ErrGlue)
			appendsNot(t, "no glue, no list", 0, l, nat(0), bad, 0, api.ErrGlue)
			appendsNot(t, "no list, and x too great", -most/2, l, nat(most), nat(0), 0, e)
		}
	}
	appendsNot(t, "no glue, no box", 0, noBox, bad, nat(0), 0, api.ErrGlue)
	appendsNot(t, "no box, and x too great", -2, noBox, nat(most), nat(0), 0, api.ErrArg)
	appendsNot(t, "no dimension, and x too great", -2, box(0, 0), nat(most), nat(0), most+1, api.ErrRange)
	appendsNot(t, "no glue, and x too great", -2, box(0, 0), nat(most), bad, 0, api.ErrGlue)
}

// A box of MaxNodes nodes stays one; what comes ahead of it is a list of its own.
func TestP1102Large(t *testing.T) {
	b := box(7, 2, repeat(char(), api.MaxNodes-2))
	appends(t, "as much as may be", 2, b, nat(12), nat(1), 0, join(of(nat(3), 2), b), 2)
	appends(t, "as much as may be", none, b, nat(12), nat(1), 0, b, 2)
	deep := nested(40, nil)
	appends(t, "as deep as may be", 2, deep, nat(12), nat(1), 0, join(of(nat(10), 2), deep), 0)
}
