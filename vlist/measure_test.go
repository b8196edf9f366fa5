package vlist_test

import (
	"testing"

	"galley/api"
)

// sum: totals of that size, that stretch and shrink so, by order 0.
func sum(nat, stretch, shrink int) api.Totals {
	return api.Totals{Nat: nat, Stretch: [4]int{stretch}, Shrink: [4]int{shrink}}
}

func TestP1105Places(t *testing.T) {
	l := col("bgvkrm")
	for _, c := range []struct{ to, nat, flex, d int }{
		{0, 0, 0, 0}, {2, 7, 0, 2}, {3, 12, 1, 0}, {5, 17, 1, 1}, {6, 24, 1, 0}, {7, 28, 1, 3}, {8, 28, 1, 3},
	} {
		measures(t, "a column", l, c.to, 100, sum(c.nat, 2*c.flex, c.flex), c.d)
	}
	for _, to := range []int{-1, 1, 4, 9, 10, -2, 1 << 32, -1 << 63, 1<<63 - 1} {
		measuresNot(t, "a column", l, to, 100, api.ErrNone)
	}
	in := join(vbox(5, 1, col("bgb")), insert(col("bg")), col("b"))
	for to := range len(in) + 2 {
		switch to {
		case 0:
			measures(t, "contents", in, to, 100, sum(0, 0, 0), 0)
		case 7, 12:
			measures(t, "contents", in, to, 100, sum(5, 0, 0), 1)
		case 14:
			measures(t, "contents", in, to, 100, sum(13, 0, 0), 2)
		default:
			measuresNot(t, "contents", in, to, 100, api.ErrNone)
		}
	}
	measures(t, "nothing", nil, 0, 0, sum(0, 0, 0), 0)
	measuresNot(t, "nothing", nil, 1, 0, api.ErrNone)
	measuresNot(t, "nothing", nil, -1, 0, api.ErrNone)
}

// A depth that is just allowed, and those above and below it.
func TestP1105Depths(t *testing.T) {
	for _, c := range []struct{ d, depth, nat, want int }{
		{2, 2, 7, 2}, {2, 3, 7, 2}, {2, 1, 8, 1}, {2, 0, 9, 0}, {2, -1, 10, -1}, {2, -most, 9 + most, -most}, {2, most, 7, 2},
		{0, 0, 7, 0}, {0, -1, 8, -1}, {-3, 0, 7, -3}, {-3, -3, 7, -3}, {-3, -4, 8, -4}, {-3, -2, 7, -3}, {most, most, 7, most}, {most, most - 1, 8, most - 1}, {most, 0, 7 + most, 0},
		{-most, 0, 7, -most}, {-most, -most, 7, -most},
	} {
		for _, last := range [][]api.Node{box(7, c.d), vbox(7, c.d), rule(7, c.d)} {
			measures(t, "a last item", last, len(last), c.depth, sum(c.nat, 0, 0), c.want)
			l := join(col("bg"), last)
			measures(t, "a last item", l, len(l), c.depth, sum(c.nat+12, 2, 1), c.want)
		}
	}
	measures(t, "depths that are 0 count, too", col("bk"), 3, -5, sum(20, 0, 0), -5)
	measures(t, "nothing", nil, 0, -5, sum(5, 0, 0), -5)
	for _, sub := range []int{2, 3} {
		l := join(col("b"), one(api.Node{Kind: api.Rule, Sub: sub}))
		measures(t, "a rule as deep as its box", l, 3, 100, sum(9, 0, 0), 0)
	}
	l := join(col("b"), one(api.Node{Kind: api.Rule, H: 4, D: 5, Sub: 1}))
	measures(t, "a rule as wide as its box", l, 3, 100, sum(13, 0, 0), 5)
}

// Behind the last box Marks, Specials, Inses and Penalties may stand; a Skip or a Kern takes its depth.
func TestP1105Behind(t *testing.T) {
	for _, text := range []string{"m", "s", "i", "p", "n", "f", "msipnf", "iiipm"} {
		l := col("b" + text)
		measures(t, text, l, len(l), 100, sum(7, 0, 0), 2)
		measures(t, text, l, len(l), 1, sum(8, 0, 0), 1)
		l = col("bgv" + text)
		measures(t, text, l, len(l), 100, sum(17, 2, 1), 1)
		l = col("b" + text + "g")
		measures(t, text, l, len(l), 100, sum(12, 2, 1), 0)
		l = col("b" + text + "k" + text)
		measures(t, text, l, len(l), 100, sum(15, 0, 0), 0)
		l = col(text)
		measures(t, text, l, len(l), 100, sum(0, 0, 0), 0)
	}
	measures(t, "a Skip of nothing", join(col("b"), skip(0, 0, 0)), 3, 100, sum(9, 0, 0), 0)
	measures(t, "a Kern of nothing", join(col("b"), kern(0)), 3, 100, sum(9, 0, 0), 0)
	measures(t, "a Kern, and a box again", col("bkvm"), 6, 100, sum(20, 0, 0), 1)
	measures(t, "an Ins with a box", join(col("bg"), insert(col("b"))), 7, 100, sum(12, 2, 1), 0)
	measures(t, "an Ins's own sizes", join(col("b"), insert(col("bg"))), 7, 100, sum(7, 0, 0), 2)
}

func TestP1105Glue(t *testing.T) {
	glue := func(nat, more, order, less int) []api.Node {
		return glued(api.Glue{Nat: nat, Stretch: more, StretchOrder: order, Shrink: less})
	}
	l := join(glue(1, 10, 0, 100), glue(2, 20, 1, 200), glue(-4, 30, 2, -50), glue(8, 40, 3, 7), glue(16, -5, 2, 0), glue(32, 3, 3, 9), vbox(0, 0, glue(99, 99, 1, 99)))
	measures(t, "all orders", l, len(l), 0, api.Totals{Nat: 55, Stretch: [4]int{10, 20, 25, 43}, Shrink: [4]int{266}}, 0)
	measures(t, "the first two", l, 2, 0, api.Totals{Nat: 3, Stretch: [4]int{10, 20}, Shrink: [4]int{300}}, 0)
	zero := glued(api.Glue{ShrinkOrder: 2, StretchOrder: 3, Nat: 5})
	measures(t, "nothing of an order", zero, 1, 0, sum(5, 0, 0), 0)
}

// Totals may be no dimensions.
func TestP1105Great(t *testing.T) {
	l := repeat(join(kern(most), glued(api.Glue{Nat: most, Stretch: most, Shrink: most})), 1000)
	measures(t, "great ones", l, 2000, most, sum(2000*most, 1000*most, 1000*most), 0)
	measures(t, "great ones", l, 1999, -most, sum(2000*most, 999*most, 999*most), -most)
	l = repeat(join(kern(-most), glued(api.Glue{Nat: -most, Stretch: -most, StretchOrder: 3, Shrink: -most})), 1000)
	measures(t, "little ones", l, 2000, 0, api.Totals{Nat: -2000 * most, Stretch: [4]int{3: -1000 * most}, Shrink: [4]int{-1000 * most}}, 0)
	l = repeat(rule(most, most), 2000)
	measures(t, "rules", l, 2000, most, sum(3999*most, 0, 0), most)
	measures(t, "rules", l, 2000, -most, sum(4001*most, 0, 0), -most)
	l = repeat(vbox(-most, -most), 1000)
	measures(t, "boxes", l, 2000, -most, sum(-1999*most, 0, 0), -most)
}

func TestP1105Wrong(t *testing.T) {
	for _, depth := range far() {
		measuresNot(t, "a column", col("bgb"), 2, depth, api.ErrRange)
		measuresNot(t, "nothing", nil, 0, depth, api.ErrRange)
		measuresNot(t, "no place, too", col("bgb"), 1, depth, api.ErrNone)
		measuresNot(t, "no place, too", col("bgb"), -1, depth, api.ErrNone)
		measuresNot(t, "no place, too", col("bgb"), 6, depth, api.ErrNone)
	}
}
