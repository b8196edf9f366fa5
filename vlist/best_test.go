package vlist_test

import (
	"testing"

	"galley/api"
)

func TestP1107Best(t *testing.T) {
	stiff := join(box(7, 2), skip(3, 0, 0), box(7, 2), skip(3, 0, 0), box(7, 2))
	best(t, "the example", stiff, 21, 2, 5, 21, 100000)
	best(t, "the example, all of it", stiff, 31, 2, 8, 33, -10000)
	best(t, "the example, and more", stiff, 1000, 2, 8, 33, -10000)
	best(t, "the example, a little less", stiff, 30, 2, 5, 21, 100000)
	best(t, "the example, just one", stiff, 7, 2, 2, 9, 0)
	best(t, "nothing", nil, 0, 0, 0, 0, -10000)
	best(t, "nothing", nil, 100, 0, 0, 0, -10000)
	best(t, "nothing, too much", nil, -1, 0, 0, 0, awful)
	best(t, "nothing, with a depth", nil, 5, -5, 0, 0, -10000)
	best(t, "a box", col("b"), 7, 2, 2, 9, -10000)
	best(t, "a box that is too deep", col("b"), 7, 1, 2, 9, awful)
	best(t, "a box that is too deep", col("b"), 8, 1, 2, 9, -10000)
	best(t, "a box that is not too deep", col("b"), 8, 5, 2, 9, -10000)
}

// dear: boxes of 10 with glue between, and such a penalty behind each.
func dear(stretch int, penalties ...int) []api.Node {
	var l []api.Node
	for _, q := range penalties {
		l = join(l, box(10, 0), skip(0, stretch, 0), penalty(q))
	}
	return join(l, box(10, 0), skip(0, 1, 0))
}

// Each box is 4 nodes here; its Skip is a break, too, as dear as the badness is.
func TestP1107Penalties(t *testing.T) {
	best(t, "the cheapest", dear(10, 300, 200, 250), 30, 0, 10, 30, 0)
	best(t, "the cheapest by far", dear(10, 300, -200, 250), 30, 0, 7, 20, -200+12)
	best(t, "the first one", dear(10, -500, 200, 250), 20, 0, 3, 10, -500+100)
	best(t, "the last one", dear(10, -100, -110, -120), 30, 0, 11, 30, -120)
	best(t, "the one above the last", dear(10, -100, -130, -100), 30, 0, 7, 20, -130+12)
}

// Of breaks that cost alike the later one is taken.
func TestP1107Alike(t *testing.T) {
	l := join(col("m"), penalty(5), penalty(5), penalty(5), col("mb"))
	best(t, "Penalties", l, 0, 0, 3, 0, 5)
	best(t, "a dearer one behind", join(col("m"), penalty(5), penalty(5), penalty(6), col("b")), 0, 0, 2, 0, 5)
	best(t, "a cheaper one behind", join(col("m"), penalty(5), penalty(5), penalty(4), col("b")), 0, 0, 3, 0, 4)
	best(t, "and as cheap again", join(col("m"), penalty(4), penalty(5), penalty(4), col("b")), 0, 0, 3, 0, 4)
	deplorable := repeat(join(box(10, 0), skip(0, 0, 0)), 5)
	best(t, "all deplorable", deplorable, 35, 0, 8, 30, 100000)
	best(t, "all deplorable, to the end", deplorable, 55, 0, 15, 50, -10000)
	best(t, "forced ones", join(col("b"), penalty(-10000), col("b"), penalty(-20000)), 7, 2, 2, 9, -10000)
}

// Behind a break that is forced, or awful, none is tried.
func TestP1107Stops(t *testing.T) {
	l := join(col("bpbfbpb"))
	best(t, "a forced break", l, 1000, 2, 5, 18, -10000)
	best(t, "a forced break that is awful", l, 8, 2, 2, 9, 100000)
	best(t, "a forced break with a better one ahead", join(col("b"), penalty(-9999), col("bf")), 7, 2, 2, 9, -9999)
	best(t, "a forced break that fits, behind a better one", join(col("b"), penalty(-9999), col("rf")), 13, 3, 4, 16, -10000)
	best(t, "more than forced", join(col("b"), penalty(-10001), col("b"), penalty(-30000)), 100, 2, 2, 9, -10001)
	best(t, "a forced break at the beginning", col("fbb"), 100, 2, 0, 0, -10000)
	best(t, "the first break is awful", col("bgbp"), 6, 2, 2, 9, awful)
	best(t, "the first break is awful, the second one forced", col("bgf"), 6, 2, 2, 9, awful)
	best(t, "the first break is awful and forced", col("bfb"), 6, 2, 2, 9, awful)
	// What is too high becomes less again by a Kern: but that is not tried.
	l = join(col("bpb"), penalty(3), kern(-9), penalty(-50), box(8, 2))
	best(t, "an awful break", l, 8, 2, 2, 9, 100000)
	best(t, "no awful break", l, 16, 2, 5, 18, 3)
	l = join(penalty(4), col("bpb"), kern(-18), penalty(-50))
	best(t, "an awful break behind the first", l, 0, 0, 0, 0, 4)
	l = join(col("bn"), kern(-9), penalty(50), col("b"))
	best(t, "what is too high where no break is", l, 0, 0, 4, 0, 50)
}

// The size is with the depth, which is no more than the greatest one, but then its height is more.
func TestP1107Size(t *testing.T) {
	for _, depth := range []int{-7, 0, 1, 2, 3, most} {
		best(t, "a size", col("bm"), 100, depth, 3, 9, -10000)
	}
	best(t, "a size without a depth", col("bg"), 100, 0, 3, 12, -10000)
	best(t, "a great size", repeat(rule(-most, -most), 2000), 0, 0, 2000, -4000*most, -10000)
	best(t, "a great size", join(repeat(rule(most, most), 1999), col("f")), 0, 0, 1999, 3998*most, awful)
}

func TestP1107Wrong(t *testing.T) {
	for _, n := range far() {
		for _, l := range [][]api.Node{nil, col("b"), col("fbgb")} {
			bestNot(t, "no height", l, n, 0, api.ErrRange)
			bestNot(t, "no depth", l, 0, n, api.ErrRange)
			bestNot(t, "neither", l, n, n, api.ErrRange)
		}
	}
	best(t, "the greatest height, the greatest depth", col("b"), most, most, 2, 9, -10000)
	best(t, "the least height, the least depth", col("b"), -most, -most, 2, 9, awful)
}
