package vlist_test

import (
	"testing"

	"galley/api"
)

func TestP1104Skips(t *testing.T) {
	end := api.Eject
	legal(t, "nothing", nil, []int{0}, end)
	legal(t, "nothing", []api.Node{}, []int{0}, end)
	legal(t, "a box", col("b"), []int{2}, end)
	legal(t, "the example", col("bgbgb"), []int{2, 5, 8}, 0, 0, end)
	legal(t, "a Skip at the beginning", col("g"), []int{1}, end)
	legal(t, "a Skip at the beginning", col("gb"), []int{3}, end)
	legal(t, "Skips behind one another", col("bgg"), []int{2, 4}, 0, end)
	legal(t, "a Skip behind a Kern", col("kg"), []int{0, 2}, 0, end)
	legal(t, "a Skip behind a Kern that isn't the first", col("bkg"), []int{2, 4}, 0, end)
	legal(t, "a Skip behind a Penalty", col("bpg"), []int{2, 4}, 0, end)
	legal(t, "a Skip behind a Penalty of 10000", col("bng"), []int{4}, end)
	for _, c := range []struct {
		text string
		at   int
	}{{"bg", 2}, {"vg", 2}, {"rg", 1}, {"mg", 1}, {"sg", 1}, {"ig", 2}} {
		legal(t, "a Skip behind what stays", col(c.text), []int{c.at, c.at + 1}, 0, end)
		legal(t, "a Skip behind what stays", join(col("g"), col(c.text)), []int{c.at + 1, c.at + 2}, 0, end)
	}
	legal(t, "a Skip behind contents", join(vbox(1, 1, col("gbgkgp")), col("g")), []int{9, 10}, 0, end)
	legal(t, "contents alone", join(vbox(1, 1, col("gbgkgp")), insert(col("bg"))), []int{14}, end)
}

func TestP1104Kerns(t *testing.T) {
	end := api.Eject
	legal(t, "a Kern", col("k"), []int{1}, end)
	legal(t, "a Kern behind a box", col("bk"), []int{3}, end)
	legal(t, "a Kern between boxes", col("bkb"), []int{5}, end)
	legal(t, "a Kern ahead of a Skip", col("bkgb"), []int{2, 6}, 0, end)
	legal(t, "a Kern at the beginning ahead of a Skip", col("kgb"), []int{0, 4}, 0, end)
	legal(t, "a Kern ahead of a Kern", col("bkkg"), []int{3, 5}, 0, end)
	legal(t, "a Kern ahead of a Penalty", col("bkpg"), []int{3, 5}, 0, end)
	legal(t, "a Kern ahead of a Mark", col("bkmg"), []int{4, 5}, 0, end)
	legal(t, "a Kern behind a Penalty", col("bpkg"), []int{2, 3, 5}, 0, 0, end)
	legal(t, "a Kern behind a Skip", col("bgkg"), []int{2, 3, 5}, 0, 0, end)
	for sub := range 3 {
		k := one(api.Node{Kind: api.Kern, W: 5, Sub: sub})
		legal(t, "whatever a Kern is for", join(k, col("g")), []int{0, 2}, 0, end)
	}
	legal(t, "a Kern ahead of a box with a Skip", join(kern(1), vbox(1, 1, col("g"))), []int{4}, end)
	legal(t, "a Kern at the end of a box", join(vbox(1, 1, col("bk")), col("g")), []int{5, 6}, 0, end)
}

func TestP1104Penalties(t *testing.T) {
	end := api.Eject
	for _, q := range []int{9999, -9999, -10000, -10001, 0, 1, -1, -api.MaxNumber} {
		legal(t, "a Penalty", penalty(q), []int{0, 1}, q, end)
		legal(t, "a Penalty behind a box", join(col("b"), penalty(q)), []int{2, 3}, q, end)
		legal(t, "Penalties", join(col("bgp"), penalty(q), col("p")), []int{2, 3, 4, 5, 6}, 0, 0, q, 0, end)
	}
	for _, q := range []int{10000, 10001, api.MaxNumber} {
		legal(t, "a Penalty", penalty(q), []int{1}, end)
		legal(t, "a Penalty behind a box", join(col("b"), penalty(q)), []int{3}, end)
		legal(t, "Penalties", join(col("bgp"), penalty(q), col("p")), []int{2, 3, 5, 6}, 0, 0, 0, end)
	}
	legal(t, "a Penalty within", vbox(1, 1, penalty(-10000)), []int{3}, end)
}

// What is no column has no breaks.
func TestP1101Columns(t *testing.T) {
	for e, lists := range wrongLists() {
		for _, l := range lists {
			noColumn(t, told(l[:min(9, len(l))]), l, e)
		}
	}
	for _, item := range wrongItems() {
		for _, l := range [][]api.Node{item, join(col("b"), item), join(item, col("b")), join(col("bg"), item, col("gb"))} {
			noColumn(t, told(l), l, api.ErrList)
		}
		for _, l := range [][]api.Node{box(7, 2, item), vbox(7, 2, item), insert(item)} {
			legal(t, told(l), l, []int{len(l)}, api.Eject)
		}
	}
	for _, g := range endless() {
		for _, l := range [][]api.Node{glued(g), join(col("b"), glued(g)), join(glued(g), col("b")), join(col("bg"), glued(g), col("gb"))} {
			noColumn(t, told(l), l, api.ErrGlue)
		}
		inner := join(vbox(7, 2, glued(g)), insert(glued(g)))
		legal(t, told(inner), inner, []int{len(inner)}, api.Eject)
	}
	for order := range 4 {
		l := glued(api.Glue{Nat: 1, Stretch: 1, StretchOrder: order, ShrinkOrder: order})
		legal(t, "a Shrink of 0", l, []int{1}, api.Eject)
	}
}

// Which error comes first: the list's, then the items', then the Skips'.
func TestP1101First(t *testing.T) {
	for _, item := range wrongItems() {
		for _, g := range endless() {
			noColumn(t, "both", join(item, glued(g)), api.ErrList)
			noColumn(t, "both", join(glued(g), col("b"), item), api.ErrList)
		}
		noColumn(t, "too deep, too", join(item, nested(41, nil)), api.ErrDeep)
		noColumn(t, "too many, too", join(item, repeat(col("k"), api.MaxNodes)), api.ErrSize)
	}
	for _, g := range endless() {
		noColumn(t, "no list, too", join(glued(g), one(api.Node{Kind: api.End})), api.ErrList)
		noColumn(t, "too deep, too", join(glued(g), nested(41, nil)), api.ErrDeep)
		noColumn(t, "too many, too", repeat(glued(g), api.MaxNodes+1), api.ErrSize)
	}
}
