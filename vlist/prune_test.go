package vlist_test

import (
	"slices"
	"testing"

	"galley/api"
	"galley/nodes"
	"galley/vlist"
)

// top: the Skip that comes ahead of the first box, n high.
func top(n int) []api.Node {
	g := api.Glue{Nat: n, Stretch: 4, Shrink: -3, StretchOrder: 2}
	return of(g, 10)
}

// upper: the glue whose Skips top has.
func upper(n int) api.Glue { return top(n)[0].Glue }

func TestP1103Falls(t *testing.T) {
	b := box(7, 2, char())
	for _, ahead := range []string{"", "g", "k", "p", "n", "f", "gg", "gkpnfgkp"} {
		l := join(col(ahead), b, col("gkpb"))
		prunes(t, ahead, l, upper(10), top(3), b, col("gkpb"))
	}
	prunes(t, "the example", join(skip(5, 0, 0), b), nat(10), of(nat(3), 10), b)
}

// Marks, Specials and Inses stay, wherever they stand ahead of the first box; each of them may be the first item that stays.
func TestP1103Stays(t *testing.T) {
	b := box(7, 2)
	for _, c := range []struct{ ahead, stays string }{
		{"m", "m"}, {"s", "s"}, {"i", "i"}, {"gm", "m"}, {"gs", "s"}, {"gi", "i"}, {"mg", "m"}, {"sk", "s"}, {"ip", "i"},
		{"gmgsgigkpngm", "msim"}, {"mmkss", "mmss"}, {"iig", "ii"},
	} {
		prunes(t, c.ahead, join(col(c.ahead), b, col("gmgb")), upper(10), col(c.stays), top(3), b, col("gmgb"))
	}
	in := insert(col("gkp"), box(1, 2), col("g"))
	prunes(t, "an Ins with a column of its own", join(col("gg"), in, col("g"), b), upper(10), in, top(3), b)
}

func TestP1103Firsts(t *testing.T) {
	for _, c := range []struct {
		name   string
		item   []api.Node
		height int
	}{
		{"a box", box(7, 2), 7}, {"a box with contents", box(7, 2, col("gkb"), char()), 7}, {"a VBox", vbox(5, 1), 5}, {"a rule", rule(4, 3), 4},
		{"a rule as high as its box", one(api.Node{Kind: api.Rule, W: 5, Sub: 2}), 0}, {"a rule as wide as its box", one(api.Node{Kind: api.Rule, H: 6, D: 1, Sub: 1}), 6},
		{"a rule as great as its box", one(api.Node{Kind: api.Rule, Sub: 3}), 0}, {"a box below", box(-7, 9), -7}, {"nothing", box(0, 0), 0},
	} {
		prunes(t, c.name, c.item, upper(10), top(10-c.height), c.item)
		prunes(t, c.name, join(col("mgk"), c.item, col("gb")), upper(10), col("m"), top(10-c.height), c.item, col("gb"))
		prunes(t, c.name, join(c.item, col("gbr")), upper(10), top(10-c.height), c.item, col("gbr"))
	}
	prunes(t, "a box and a rule", col("brv"), upper(10), top(3), col("brv"))
	prunes(t, "a rule and a box", col("rbv"), upper(10), top(6), col("rbv"))
}

// The natural size is at least 0, and at most MaxDimen.
func TestP1103Heights(t *testing.T) {
	for _, c := range [][3]int{
		{7, 7, 0}, {6, 7, 0}, {8, 7, 1}, {0, 0, 0}, {0, 7, 0}, {-1, 0, 0}, {-1, -1, 0}, {-1, -2, 1}, {-2, -1, 0}, {-most, 0, 0}, {-most, most, 0}, {-most, -most, 0},
		{most, 0, most}, {most, 1, most - 1}, {most, -1, most}, {most, -2, most}, {most - 1, -1, most}, {most - 2, -1, most - 1}, {most, most, 0}, {most, -most, most},
		{1, -most, most}, {0, -most, most}, {-1, -most, most - 1}, {most - 1, most, 0}, {most, most - 1, 1},
	} {
		for _, first := range [][]api.Node{box(c[1], 2), vbox(c[1], -2), rule(c[1], 3)} {
			prunes(t, "a first item", join(col("g"), first), upper(c[0]), top(c[2]), first)
		}
	}
}

// Without a box or a rule no glue comes.
func TestP1103None(t *testing.T) {
	prunes(t, "nothing", nil, upper(10))
	prunes(t, "nothing", []api.Node{}, upper(10))
	for _, c := range [][2]string{{"g", ""}, {"k", ""}, {"p", ""}, {"gkpnfg", ""}, {"m", "m"}, {"gmg", "m"}, {"msi", "msi"}, {"gmkspi", "msi"}, {"igggm", "im"}} {
		prunes(t, c[0], col(c[0]), upper(10), col(c[1]))
	}
	in := insert(col("gbgb"))
	prunes(t, "a box within", join(col("g"), in, col("g")), upper(10), in)
}

func TestP1103Wrong(t *testing.T) {
	for _, l := range [][]api.Node{nil, col("m"), col("b"), col("gbgb")} {
		for _, g := range append(wrongGlue(), endless()...) {
			prunesNot(t, "glue that may not be", l, g, api.ErrGlue)
		}
	}
	for order := range 4 {
		g := api.Glue{Nat: 10, Stretch: 1, StretchOrder: order, ShrinkOrder: order}
		less := g
		less.Nat = 3
		prunes(t, "a Shrink of 0", col("b"), g, of(less, 10), col("b"))
	}
	finite := api.Glue{Nat: 10, Shrink: most}
	prunes(t, "a Shrink of order 0", col("b"), finite, of(api.Glue{Nat: 3, Shrink: most}, 10), col("b"))
}

// A column of MaxNodes nodes has no room for one more; but what falls away makes some.
func TestP1103Large(t *testing.T) {
	full := join(col("b"), repeat(col("g"), api.MaxNodes-2))
	prunesNot(t, "one too many", full, upper(10), api.ErrSize)
	prunesNot(t, "one too many", join(rule(4, 3), full[2:], col("g")), upper(10), api.ErrSize)
	prunesNot(t, "one too many", join(col("m"), full[:api.MaxNodes-1]), upper(10), api.ErrSize)
	prunes(t, "just as many", full[:api.MaxNodes-1], upper(10), top(3), full[:api.MaxNodes-1])
	prunes(t, "one falls away", join(col("g"), full[:api.MaxNodes-1]), upper(10), top(3), full[:api.MaxNodes-1])
	prunes(t, "one falls away behind a Mark", join(col("mg"), full[:api.MaxNodes-2]), upper(10), col("m"), top(3), full[:api.MaxNodes-2])
	prunesNot(t, "glue that may not be", full, nat(most+1), api.ErrGlue)
	marks := repeat(col("m"), api.MaxNodes)
	prunes(t, "Marks alone", marks, upper(10), marks)
	prunesNot(t, "Marks and a rule", join(marks[1:], rule(4, 3)), upper(10), api.ErrSize)
	deep := nested(40, nil)
	prunes(t, "as deep as may be", deep, upper(10), top(10), deep)
}

// P1112: Prune of Prune, with the same top, is Prune.
func TestP1112Prune(t *testing.T) {
	r := &random{1112}
	for range 4000 {
		l, g := r.column(12), r.glue()
		if r.chance(9) {
			g.Nat = r.of(most, -most, most-3)
		}
		once, e := vlist.Prune(l, g)
		if e != api.OK {
			t.Fatalf("Prune of %s: %d", told(l), e)
		}
		if again, e := vlist.Prune(once, g); e != api.OK || !slices.Equal(again, once) {
			t.Fatalf("Prune of %s: %s; again: %s, %d", told(l), told(once), told(again), e)
		}
		if nodes.Check(once) != api.OK {
			t.Fatalf("Prune of %s: %s", told(l), told(once))
		}
	}
	full := join(col("b"), repeat(col("g"), api.MaxNodes-3))
	once, _ := vlist.Prune(full, upper(9))
	prunes(t, "as many nodes as may be", once, upper(9), once)
}
