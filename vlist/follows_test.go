package vlist_test

import (
	"slices"
	"testing"

	"galley/api"
	"galley/vlist"
)

// P1110: of the legal breaks up to the first one that is forced or awful none costs less than the best, and none behind that as little.
func TestP1110(t *testing.T) {
	r := &random{1110}
	for i := range 4000 {
		l, height, depth := r.column(25), r.height(), r.depth()
		if i%10 == 0 {
			l, height = r.long(40), r.from(0, 500)
		}
		at, _, cost, e := vlist.Best(l, height, depth)
		if e != api.OK {
			t.Fatalf("Best of %s: %d", told(l), e)
		}
		places, penalties, _ := vlist.Legal(l)
		found := false
		for i, to := range places {
			c, e := vlist.Cost(l, to, height, depth)
			switch {
			case e != api.OK:
				t.Fatalf("Cost of %s at %d: %d", told(l), to, e)
			case c < cost, to > at && c <= cost:
				t.Fatalf("%s, %d high: at %d it costs %d, at the best, %d, %d", told(l), height, to, c, at, cost)
			case to == at && c != cost:
				t.Fatalf("%s, %d high: at %d it costs %d; told was %d", told(l), height, to, c, cost)
			}
			found = found || to == at
			if penalties[i] <= -10000 || c == awful {
				break
			}
		}
		if !found {
			t.Fatalf("%s, %d high: %d is none of %v", told(l), height, at, places)
		}
	}
}

// staying: what does not fall away of a column.
func staying(t *testing.T, l []api.Node) []api.Node {
	var all []api.Node
	for _, p := range parts(t, l) {
		if !p.falls() {
			all = join(all, p.nodes)
		}
	}
	return all
}

// P1111: nothing is lost.
func TestP1111(t *testing.T) {
	r := &random{1111}
	tops, none := 0, 0
	for range 5000 {
		l, height, depth, top := r.column(20), r.height(), r.depth(), r.glue()
		first, rest, e := vlist.Split(l, height, depth, top)
		at, _, _, _ := vlist.Best(l, height, depth)
		if e != api.OK || !slices.Equal(first, l[:at]) {
			t.Fatalf("Split of %s: %s, %d; its best break is %d", told(l), told(first), e, at)
		}
		if !slices.Equal(join(staying(t, first), staying(t, rest)), staying(t, l)) {
			t.Fatalf("Split of %s: %s; %s", told(l), told(first), told(rest))
		}
		whole := parts(t, rest)
		stands := slices.ContainsFunc(whole, part.stands)
		from := slices.IndexFunc(whole, part.falls)
		switch {
		case !stands && from >= 0:
			t.Fatalf("Split of %s: without a box %s is left", told(l), told(rest))
		case !stands:
			none++
		default:
			tops++
			skip, next := whole[from].nodes[0], whole[from+1]
			if skip.Kind != api.Skip || skip.Sub != 10 || skip.Glue.Stretch != top.Stretch || !next.stands() || slices.ContainsFunc(whole[:from], part.stands) {
				t.Fatalf("Split of %s: %s is left", told(l), told(rest))
			}
			if !slices.Equal(rest[next.at:], l[len(l)-len(rest)+next.at:]) {
				t.Fatalf("Split of %s: behind the top of %s all should be as it was", told(l), told(rest))
			}
		}
	}
	if tops < 1000 || none < 500 {
		t.Errorf("%d with glue at the top, %d without", tops, none)
	}
}

// A column that is split again and again until nothing is left keeps all that does not fall away.
func TestP1111Again(t *testing.T) {
	r := &random{11110}
	for range 60 {
		l := r.long(120)
		left, top := l, skip(9, 0, 0)[0].Glue
		var all []api.Node
		pages := 0
		for len(left) > 0 {
			first, rest, e := vlist.Split(left, r.from(90, 200), 2, top)
			if e != api.OK || len(first) == 0 || pages > 200 {
				t.Fatalf("page %d of %s: %d", pages, told(l), e)
			}
			all, left = join(all, first), rest
			pages++
		}
		if !slices.Equal(staying(t, all), staying(t, l)) || pages < 5 {
			t.Errorf("%d pages of %s: %s", pages, told(l), told(all))
		}
	}
}

// P1112: lines that are appended, each with the depth ahead, have their baselines as far apart as is asked for.
func TestP1112Append(t *testing.T) {
	r := &random{11120}
	for range 500 {
		baseline := api.Glue{Nat: r.from(5, 30), Stretch: r.from(0, 3)}
		limit := r.from(-3, 3)
		line := nat(r.from(0, 3))
		depth := none
		var l []api.Node
		var apart []int // how far each baseline is to be below the one ahead
		for i := range 30 {
			b := box(r.from(0, 12), r.from(0, 5))
			x := baseline.Nat - depth - b[0].H
			lines, d, e := vlist.Append(depth, b, baseline, line, limit)
			if e != api.OK || d != b[0].D {
				t.Fatalf("Append of %s: %d, %d", told(b), d, e)
			}
			switch {
			case i == 0:
				apart = append(apart, b[0].H)
			case x >= limit:
				apart = append(apart, baseline.Nat)
			default:
				apart = append(apart, depth+line.Nat+b[0].H)
			}
			l, depth = join(l, lines), d
		}
		at, i := 0, 0
		last := 0
		for _, p := range parts(t, l) {
			n := p.nodes[0]
			if n.Kind == api.Skip {
				at += n.Glue.Nat
				continue
			}
			at += n.H
			if at-last != apart[i] {
				t.Fatalf("line %d of %s is %d below the one ahead; want %d", i, told(l), at-last, apart[i])
			}
			last = at
			at += n.D
			i++
		}
	}
}

// A greater height never gives an earlier break, where no penalty is below 0 and nothing shrinks as it stretches.
func TestP1110Higher(t *testing.T) {
	r := &random{11100}
	for range 300 {
		l := repeat(join(box(r.from(6, 9), r.from(0, 3)), skip(r.from(1, 4), r.from(0, 3), 0)), r.from(3, 30))
		last := 0
		for height := range 300 {
			at, size, cost, _ := vlist.Best(l, height, 3)
			if at < last {
				t.Fatalf("Best of %s, %d high: %d, but %d for one less", told(l), height, at, last)
			}
			if sum, d, _ := vlist.Size(l, at, 3); sum.Nat+d != size || cost != awful && sum.Nat > height {
				t.Fatalf("Best of %s, %d high: %d, size %d; want %d", told(l), height, at, size, sum.Nat+d)
			}
			last = at
		}
	}
}
