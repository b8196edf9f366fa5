package vlist_test

import (
	"testing"

	"galley/api"
)

func TestP1108Split(t *testing.T) {
	l := col("bgbgb")
	splits(t, "the example", l, 21, 2, upper(10), col("bgb"), join(top(3), col("b")))
	splits(t, "the example, just one", l, 7, 2, upper(10), col("b"), join(top(3), col("bgb")))
	splits(t, "at the end", l, 31, 2, upper(10), l, nil)
	splits(t, "nothing", nil, 31, 2, upper(10), nil, nil)
	splits(t, "nothing", []api.Node{}, 31, 2, upper(10), nil, nil)
	splits(t, "where the first break is awful", l, 0, 0, upper(10), col("b"), join(top(3), col("bgb")))
	splits(t, "ahead of all", col("fmgvb"), 31, 2, upper(10), nil, join(col("m"), top(5), col("vb")))
	splits(t, "at a Penalty", col("bmpksr"), 7, 2, upper(10), col("bm"), join(col("s"), top(6), col("r")))
	splits(t, "at a Kern behind a Penalty", col("bmpkgsr"), 7, 2, upper(10), col("bmp"), join(col("s"), top(6), col("r")))
	splits(t, "at a Kern", join(col("b"), kern(10), col("gr")), 7, 2, upper(10), col("b"), join(top(6), col("r")))
}

// What is left may be empty: where all that stands behind the break falls away.
func TestP1108Rest(t *testing.T) {
	splits(t, "where all falls away", col("bfgkp"), 7, 2, upper(10), col("b"), nil)
	splits(t, "where all falls away", col("bf"), 7, 2, upper(10), col("b"), nil)
	splits(t, "where a Mark stays", col("bfgmk"), 7, 2, upper(10), col("b"), col("m"))
	splits(t, "where an Ins stays", col("bfgisk"), 7, 2, upper(10), col("b"), col("is"))
	in := insert(col("gbgb"))
	splits(t, "where a column within stays", join(col("bfg"), in), 7, 2, upper(10), col("b"), in)
	splits(t, "where a box stays", col("bfgmb"), 7, 2, upper(3), col("b"), join(col("m"), top(0), col("b")))
}

func TestP1108Wrong(t *testing.T) {
	for _, l := range [][]api.Node{nil, col("b"), col("bgbf"), col("bfb")} {
		for _, n := range far() {
			splitsNot(t, "no height", l, n, 0, nat(1), api.ErrRange)
			splitsNot(t, "no depth", l, 0, n, nat(1), api.ErrRange)
			splitsNot(t, "no depth, no glue", l, 0, n, nat(most+1), api.ErrRange)
			splitsNot(t, "no height, endless glue", l, n, 0, endless()[0], api.ErrRange)
		}
		for _, g := range append(wrongGlue(), endless()...) {
			splitsNot(t, "glue that may not be", l, 100, 2, g, api.ErrGlue)
		}
	}
	splits(t, "a Shrink of 0", col("bfb"), 7, 2, api.Glue{ShrinkOrder: 3}, col("b"), join(of(api.Glue{ShrinkOrder: 3}, 10), col("b")))
}

// What falls away at a break makes room for the glue at the top.
func TestP1108Large(t *testing.T) {
	tail := join(col("b"), repeat(col("k"), api.MaxNodes-3))
	splits(t, "at a Penalty ahead of all", join(penalty(-10000), tail), 100, 2, upper(10), nil, join(top(3), tail))
	marks := repeat(col("m"), api.MaxNodes)
	splits(t, "all at once", marks, 100, 2, upper(10), marks, nil)
}

func TestP1109Marks(t *testing.T) {
	marks(t, "nothing", nil, "", "", false)
	marks(t, "nothing", []api.Node{}, "", "", false)
	marks(t, "none", col("bgskpriv"), "", "", false)
	marks(t, "one", mark("one"), "one", "one", true)
	marks(t, "one among others", join(col("bg"), mark("one"), col("gb")), "one", "one", true)
	marks(t, "two", join(mark("one"), col("b"), mark("two")), "one", "two", true)
	marks(t, "several", join(col("b"), mark("one"), mark("two"), mark(""), col("b"), mark("three"), col("g")), "one", "three", true)
	marks(t, "without a text", mark(""), "", "", true)
	marks(t, "the first without a text", join(mark(""), mark("two")), "", "two", true)
	marks(t, "the last without a text", join(mark("one"), mark("")), "one", "", true)
	marks(t, "within a box", vbox(1, 1, mark("one")), "", "", false)
	marks(t, "within an Ins", insert(mark("one"), col("b")), "", "", false)
	marks(t, "within and beside", join(box(1, 1, mark("one")), mark("two"), mark("three"), insert(mark("four"))), "two", "three", true)
	marks(t, "a Special", special("one"), "", "", false)
}
