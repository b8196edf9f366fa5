package vlist_test

import (
	"testing"

	"galley/api"
	"galley/vlist"
)

// A column as long as may be, with a break at each item.
func TestP1107Long(t *testing.T) {
	l := repeat(join(rule(1, 0), skip(0, 0, 0)), api.MaxNodes/2)
	at, q, e := vlist.Legal(l)
	if len(at) != 1001 || len(q) != 1001 || at[999] != 1999 || at[1000] != 2000 || q[1000] != -10000 || e != api.OK {
		t.Errorf("Legal: %d, %d, %d", len(at), len(q), e)
	}
	for _, height := range []int{1, 2, 500, 999} {
		best(t, "many breaks", l, height, 0, 2*height-1, height, 0)
		splits(t, "many breaks", l, height, 0, nat(1), l[:2*height-1], join(of(nat(0), 10), l[2*height:]))
	}
	best(t, "many breaks, to the end", l, 1000, 0, 2000, 1000, -10000)
	marks(t, "many Marks", join(mark("one"), repeat(mark("two"), 1998), mark("three")), "one", "three", true)
	noColumn(t, "one more", join(l, kern(0)), api.ErrSize)
	deep := join(col("bg"), nested(40, nil))
	legal(t, "as deep as may be", deep, []int{2, 83}, 0, -10000)
	best(t, "as deep as may be", deep, 100, 0, 83, 12, -10000)
}

// wild: nodes that are seldom a list.
func (r *random) wild() []api.Node {
	l := r.column(6)
	for range r.below(4) {
		n := api.Node{Kind: r.from(-1, 18), W: r.of(0, 0, most, -most, most+1), H: r.of(0, 0, most, -most, -most-1), Sub: r.of(0, 1, 3, -1), Penalty: r.of(0, 0, api.MaxNumber, -api.MaxNumber-1)}
		if len(l) == 0 || r.chance(3) {
			l = append(l, n)
			continue
		}
		l[r.below(len(l))] = n
	}
	return l
}

// Whatever it is given, each call ends; beside an error all else is zero.
func TestP1Wild(t *testing.T) {
	r := &random{1}
	extreme := func() int {
		return r.of(0, 0, 1, -1, 5, 100, none, most, -most, most, most+1, -most-1, api.MaxNumber, 1<<62, 1<<63-1, -1<<63)
	}
	glue := func() api.Glue {
		g := r.glue()
		if r.chance(3) {
			g = api.Glue{Nat: extreme(), Stretch: extreme(), Shrink: extreme(), StretchOrder: r.from(-1, 4), ShrinkOrder: r.from(-1, 4)}
		}
		return g
	}
	for range 30000 {
		l := r.wild()
		if r.chance(2) {
			l = r.column(8)
		}
		b := box(extreme(), extreme())
		if r.chance(3) {
			b = l
		}
		height, depth, to := extreme(), extreme(), r.of(r.from(-1, len(l)+1), extreme())
		wrong := func(call string, e api.Errno, zero bool) {
			if e != api.OK && !zero {
				t.Fatalf("%s of %s: %d, and more", call, told(l), e)
			}
		}
		a, d, e := vlist.Append(extreme(), b, glue(), glue(), extreme())
		wrong("Append", e, len(a) == 0 && d == 0)
		p, e := vlist.Prune(l, glue())
		wrong("Prune", e, len(p) == 0)
		at, q, e := vlist.Legal(l)
		wrong("Legal", e, len(at)+len(q) == 0)
		sum, d, e := vlist.Size(l, to, depth)
		wrong("Size", e, sum == api.Totals{} && d == 0)
		c, e := vlist.Cost(l, to, height, depth)
		wrong("Cost", e, c == 0)
		place, size, c, e := vlist.Best(l, height, depth)
		wrong("Best", e, place == 0 && size == 0 && c == 0)
		first, rest, e := vlist.Split(l, height, depth, glue())
		wrong("Split", e, len(first)+len(rest) == 0)
		one, two, some, e := vlist.Marks(l)
		wrong("Marks", e, one == "" && two == "" && !some)
	}
}
