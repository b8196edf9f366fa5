package pack_test

import (
	"slices"
	"testing"

	"galley/api"
	"galley/nodes"
	"galley/pack"
)

// P6.6: what stays in a row, with its glue set, comes to the box's W.
func TestP66(t *testing.T) {
	r := &random{66}
	end := one(api.Node{Kind: api.Penalty}) // it stands where the row ends
	count := map[string]int{}
	for _, l := range r.lists(t, 6000) {
		to, exact, _ := r.asked()
		got := row(join(l, end), to, exact)
		if got.e != api.OK {
			continue
		}
		places, e := pack.Places(got.box, 0)
		if e == api.ErrArith {
			continue // a share of the glue on the way is too great
		}
		inside, _ := nodes.Inside(got.box, 0)
		natural, _ := nodes.Totals(inside, false)
		n, ends := got.node(), places[len(places)-1]
		want, kind := n.W, "set"
		switch {
		case got.over > 0 && n.Sign != api.Stretching:
			want, kind = n.W+got.over, "too full"
		case n.Sign == api.Still:
			want, kind = natural.Nat, "still"
		}
		count[kind]++
		if e != api.OK || ends != want {
			t.Errorf("a row of %v, %s: it ends at %d, %d; want %d", got, kind, ends, e, want)
		}
	}
	if count["set"] < 1000 || count["too full"] < 500 || count["still"] < 500 {
		t.Errorf("too few of a kind: %v", count)
	}
}

// So it does with many Skips, which part what there is without losing any of it.
func TestP66Exactly(t *testing.T) {
	l := join(repeat(join(skip(0, 3, 0, 2, 0), char(7, 0, 0), skip(1, 1, 0, 5, 0)), 300), mark("goes"), one(api.Node{Kind: api.Penalty}))
	natural := 300 * 8
	for _, excess := range []int{1, 2, 999, 1200, 1201, 54321, -1, -2, -1049, -2099, -2100, -2101, -5000} {
		got := row(l, natural+excess, true)
		places, e := pack.Places(got.box, 0)
		want := max(natural+excess, natural-2100)
		if e != api.OK || places[len(places)-1] != want || want != got.node().W+got.over {
			t.Errorf("%d more: the row ends at %d, %d; W is %d, over %d", excess, places[len(places)-1], e, got.node().W, got.over)
		}
	}
}

// P6.7: a box that is as its contents are.
func TestP67(t *testing.T) {
	r := &random{67}
	packed := 0
	for _, l := range r.lists(t, 3000) {
		for name, do := range calls() {
			_, _, deepest := r.asked()
			got := do(l, 0, false, deepest)
			if got.e != api.OK {
				continue
			}
			n := got.node()
			size := n.W
			if name != "Hpack" {
				size = n.H + n.D
			}
			natural, _ := nodes.Totals(l, name != "Hpack")
			if size != natural.Nat || n.Sign != api.Still || n.Order != 0 || n.Num != 0 || n.Den != 0 || got.bad != 0 || got.over != 0 {
				t.Errorf("%s of %v: %v", name, l, got)
			}
			packed++
		}
	}
	if packed < 3000 {
		t.Errorf("too few: %d", packed)
	}
}

// P6.8: what stays, with what left it, is all of the row, in order.
func TestP68(t *testing.T) {
	r := &random{68}
	left := 0
	for _, l := range r.lists(t, 4000) {
		to, exact, _ := r.asked()
		got := row(l, to, exact)
		if got.e != api.OK {
			continue
		}
		stays, _ := nodes.Inside(got.box, 0)
		out := got.out
		left += len(out)
		for _, x := range itemsOf(l) {
			from, nodes := &stays, x.nodes
			switch nodes[0].Kind {
			case api.Adjust:
				from, nodes = &out, nodes[1:len(nodes)-1]
			case api.Ins, api.Mark:
				from = &out
			}
			if len(*from) < len(nodes) || !slices.Equal((*from)[:len(nodes)], nodes) {
				t.Fatalf("Hpack of %v: %v", l, got)
			}
			*from = (*from)[len(nodes):]
		}
		if len(stays) > 0 || len(out) > 0 {
			t.Errorf("Hpack of %v: there is more in it: %v", l, got)
		}
	}
	if left < 1000 {
		t.Errorf("too few nodes left a row: %d", left)
	}
}

// P6.9: what is answered is a list.
func TestP69(t *testing.T) {
	r := &random{69}
	for _, l := range r.lists(t, 3000) {
		for name, do := range calls() {
			to, exact, deepest := r.asked()
			got := do(l, to, exact, deepest)
			if e := nodes.Check(got.box); e != api.OK {
				t.Errorf("%s of %v: %d: %v", name, l, e, got)
			}
			if e := nodes.Check(got.out); e != api.OK {
				t.Errorf("%s of %v: %d: %v leaves it", name, l, e, got.out)
			}
			if end, _ := nodes.Item(got.box, 0); got.e == api.OK && (end != len(got.box) || end == 0) {
				t.Errorf("%s of %v is not one item: %v", name, l, got.box)
			}
		}
	}
}

// P6.10: what a column has of height it may have of depth.
func TestP610(t *testing.T) {
	r := &random{610}
	columns, hung := 0, 0
	for _, l := range r.lists(t, 6000) {
		to, exact, deepest := r.asked()
		column, top := vpack(l, to, exact, deepest), vtop(l, to, exact, deepest)
		if column.e != api.OK {
			continue
		}
		n, m := column.node(), top.node()
		natural, _ := nodes.Totals(l, true)
		if !exact && n.H+n.D != natural.Nat+to {
			t.Errorf("Vpack of %v, %d, %d: %v", l, to, deepest, n)
		}
		columns++
		if top.e != api.OK {
			continue
		}
		if n.H+n.D != m.H+m.D {
			t.Errorf("Vtop of %v, %d, %d: %v; Vpack %v", l, to, deepest, m, n)
		}
		n.H, n.D, m.H, m.D = 0, 0, 0, 0
		if n != m || column.bad != top.bad || column.over != top.over {
			t.Errorf("Vtop of %v, %d, %d: %v; Vpack %v", l, to, deepest, top, column)
		}
		hung++
	}
	if columns < 1500 || hung < 1000 {
		t.Errorf("too few: %d columns, %d that hang", columns, hung)
	}
}
