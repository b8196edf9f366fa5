package pack_test

import (
	"fmt"

	"galley/api"
	"galley/glue"
	"galley/nodes"
	"galley/pack"
	"galley/scaled"
)

// What the chapter's words say, done word for word: what the program answers is held against it.

// item: where one stands in its list, and its nodes.
type item struct {
	at    int
	nodes []api.Node
}

func itemsOf(l []api.Node) []item {
	var all []item
	for at := 0; at < len(l); {
		end, _ := nodes.Item(l, at)
		all = append(all, item{at, l[at:end]})
		at = end
	}
	return all
}

func dimension(n int) bool { return n >= -most && n <= most }

// partedPlainly: what stays in a row, and what leaves it.
func partedPlainly(l []api.Node) (stays, out []api.Node) {
	for _, x := range itemsOf(l) {
		if kind := x.nodes[0].Kind; kind == api.Ins || kind == api.Mark {
			out = append(out, x.nodes...)
		} else if kind == api.Adjust {
			inner, _ := nodes.Inside(l, x.at)
			out = append(out, inner...)
		} else {
			stays = append(stays, x.nodes...)
		}
	}
	return stays, out
}

// badPlainly: how bad it is, and how much too full.
func badPlainly(n api.Node, empty bool, t api.Totals, excess int) (bad, over int) {
	if empty || excess == 0 {
		return 0, 0
	}
	if excess > 0 {
		if n.Sign == api.Stretching && n.Order > 0 {
			return 0, 0
		}
		s := t.Stretch[0]
		if s > api.MaxNumber {
			s = api.MaxNumber
		}
		if s < 0 {
			s = 0
		}
		bad, _ = scaled.Badness(excess, s)
		return bad, 0
	}
	if n.Sign == api.Shrinking && n.Order > 0 {
		return 0, 0
	}
	x, s := -excess, t.Shrink[0]
	if s < 0 {
		s = 0
	}
	if s < x {
		return pack.Over, x - s
	}
	if s > api.MaxNumber {
		s = api.MaxNumber
	}
	bad, _ = scaled.Badness(x, s)
	return bad, 0
}

// boxPlainly: a node around contents, its glue set.
func boxPlainly(n api.Node, l, out []api.Node, t api.Totals, excess int) packed {
	var p packed
	n.Sign, n.Order, n.Num, n.Den, _ = glue.Fit(t, excess)
	p.bad, p.over = badPlainly(n, len(l) == 0, t, excess)
	p.box, p.out = open(n, l), out
	if e := nodes.Check(p.box); e != api.OK {
		return packed{e: e}
	}
	return p
}

func hpackPlainly(l []api.Node, to int, exact bool, _ int) packed {
	if e := nodes.Check(l); e != api.OK {
		return packed{e: e}
	}
	if !dimension(to) {
		return packed{e: api.ErrRange}
	}
	stays, out := partedPlainly(l)
	t, e1 := nodes.Totals(stays, false)
	h, d, e2 := nodes.Extent(stays, false)
	w := to
	if !exact {
		w += t.Nat
	}
	if e1 != api.OK || e2 != api.OK || !dimension(w) {
		return packed{e: api.ErrArith}
	}
	return boxPlainly(api.Node{Kind: api.HBox, W: w, H: h, D: d}, stays, out, t, w-t.Nat)
}

// columnPlainly: Vpack, and Vtop.
func columnPlainly(l []api.Node, to int, exact bool, most int, top bool) packed {
	if e := nodes.Check(l); e != api.OK {
		return packed{e: e}
	}
	if !dimension(to) || !dimension(most) {
		return packed{e: api.ErrRange}
	}
	for _, x := range itemsOf(l) {
		switch x.nodes[0].Kind {
		case api.Char, api.Lig, api.Disc, api.MathOn, api.MathOff, api.Adjust:
			return packed{e: api.ErrList}
		}
	}
	t, e1 := nodes.Totals(l, true)
	w, d, e2 := nodes.Extent(l, true)
	n := t.Nat - d
	if d > most {
		n += d - most
		d = most
	}
	h := to
	if !exact {
		h += n
	}
	if e1 != api.OK || e2 != api.OK || !dimension(h) || !dimension(n) {
		return packed{e: api.ErrArith}
	}
	excess := h - n
	if top {
		first := 0
		if len(l) > 0 && (l[0].Kind == api.Rule && l[0].Sub < 2 || l[0].Kind == api.HBox || l[0].Kind == api.VBox) {
			first = l[0].H
		}
		if h, d = first, h+d-first; !dimension(d) {
			return packed{e: api.ErrArith}
		}
	}
	return boxPlainly(api.Node{Kind: api.VBox, W: w, H: h, D: d}, l, nil, t, excess)
}

func vpackPlainly(l []api.Node, to int, exact bool, most int) packed {
	return columnPlainly(l, to, exact, most, false)
}

func vtopPlainly(l []api.Node, to int, exact bool, most int) packed {
	return columnPlainly(l, to, exact, most, true)
}

// plainCalls: by the names of calls.
func plainCalls() map[string]call {
	return map[string]call{"Hpack": hpackPlainly, "Vpack": vpackPlainly, "Vtop": vtopPlainly}
}

// sizePlainly: of an item that is no Skip.
func sizePlainly(l []api.Node, x item, row bool) int {
	n := x.nodes[0]
	if !row {
		switch n.Kind {
		case api.Rule:
			if n.Sub < 2 {
				return n.H + n.D
			}
		case api.HBox, api.VBox:
			return n.H + n.D
		case api.Kern:
			return n.W
		}
		return 0
	}
	switch n.Kind {
	case api.Char, api.Lig, api.HBox, api.VBox, api.Kern, api.MathOn, api.MathOff:
		return n.W
	case api.Rule:
		if n.Sub%2 == 0 {
			return n.W
		}
	case api.Disc:
		_, _, unbroken, _ := nodes.Parts(l, x.at)
		t, _ := nodes.Totals(unbroken, false)
		return t.Nat
	}
	return 0
}

func placesPlainly(l []api.Node, at int) ([]int, api.Errno) {
	inner, e := nodes.Inside(l, at)
	if e != api.OK {
		return nil, e
	}
	if l[at].Kind != api.HBox && l[at].Kind != api.VBox {
		return nil, api.ErrNone
	}
	var skips []api.Glue
	for _, x := range itemsOf(inner) {
		if x.nodes[0].Kind == api.Skip {
			skips = append(skips, x.nodes[0].Glue)
		}
	}
	sizes, e := glue.Sizes(skips, l[at].Sign, l[at].Order, l[at].Num, l[at].Den)
	if e != api.OK {
		return nil, e
	}
	var places []int
	place, next := 0, 0
	for _, x := range itemsOf(inner) {
		places = append(places, place)
		if x.nodes[0].Kind == api.Skip {
			place += sizes[next]
			next++
		} else {
			place += sizePlainly(inner, x, l[at].Kind == api.HBox)
		}
	}
	return places, api.OK
}

// reportPlainly: the chapter's three sentences. (No box that stretches is too full.)
func reportPlainly(down bool, sign, bad, over, limit, fuzz int) string {
	name, size := "hbox", "wide"
	if down {
		name, size = "vbox", "high"
	}
	stretching, shrinking, still := sign == api.Stretching, sign == api.Shrinking, sign == api.Still
	switch {
	case (shrinking || still) && (over > fuzz && over > 0 || over > 0 && limit < 100):
		return "Overfull " + name + " (" + scaled.Print(over) + "pt too " + size + ")"
	case (stretching || still) && over <= 0 && bad > limit && bad <= 100:
		return "Loose " + name + badnessTold(bad)
	case (stretching || still) && over <= 0 && bad > limit:
		return "Underfull " + name + badnessTold(bad)
	case shrinking && over <= 0 && bad > limit:
		return "Tight " + name + badnessTold(bad)
	}
	return ""
}

func badnessTold(bad int) string { return fmt.Sprintf(" (badness %d)", bad) }
