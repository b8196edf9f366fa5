package pack_test

import (
	"slices"
	"testing"

	"galley/api"
	"galley/nodes"
	"galley/pack"
)

const (
	pt   = api.Unity
	most = api.MaxDimen
)

func join(parts ...[]api.Node) []api.Node { return slices.Concat(parts...) }

func repeat(l []api.Node, times int) []api.Node { return slices.Repeat(l, times) }

func one(n api.Node) []api.Node { return []api.Node{n} }

func open(n api.Node, contents ...[]api.Node) []api.Node {
	return join(one(n), join(contents...), one(api.Node{Kind: api.End}))
}

func char(w, h, d int) []api.Node { return one(api.Node{Kind: api.Char, Char: 'a', W: w, H: h, D: d}) }

func kern(w int) []api.Node { return one(api.Node{Kind: api.Kern, W: w}) }

func mark(text string) []api.Node { return one(api.Node{Kind: api.Mark, Text: text}) }

func rule(sub, w, h, d int) []api.Node {
	return one(api.Node{Kind: api.Rule, Sub: sub, W: w, H: h, D: d})
}

func skip(nat, stretch, stretchOrder, shrink, shrinkOrder int) []api.Node {
	return one(api.Node{Kind: api.Skip, Glue: api.Glue{
		Nat: nat, Stretch: stretch, StretchOrder: stretchOrder, Shrink: shrink, ShrinkOrder: shrinkOrder,
	}})
}

func hbox(w, h, d, shift int, contents ...[]api.Node) []api.Node {
	return open(api.Node{Kind: api.HBox, W: w, H: h, D: d, Shift: shift}, contents...)
}

func vbox(w, h, d, shift int, contents ...[]api.Node) []api.Node {
	return open(api.Node{Kind: api.VBox, W: w, H: h, D: d, Shift: shift}, contents...)
}

func insert(contents ...[]api.Node) []api.Node {
	return open(api.Node{Kind: api.Ins, Sub: 7, H: 99 * pt, D: 9 * pt, Glue: api.Glue{Nat: 5, Stretch: 5, Shrink: 5}}, contents...)
}

func adjust(contents ...[]api.Node) []api.Node { return open(api.Node{Kind: api.Adjust}, contents...) }

func disc(ahead, behind, unbroken []api.Node) []api.Node {
	sep := one(api.Node{Kind: api.Sep})
	return open(api.Node{Kind: api.Disc}, ahead, sep, behind, sep, unbroken)
}

// nested: so many boxes around one another, and a list in the midst.
func nested(times int, l []api.Node) []api.Node {
	return join(repeat(one(api.Node{Kind: api.HBox}), times), l, repeat(one(api.Node{Kind: api.End}), times))
}

// a and g: those of the chapter's examples.
func a() []api.Node { return char(5*pt, 4*pt, 0) }
func g() []api.Node { return skip(pt, 2*pt, 0, pt, 0) }

// packed: what a call answers; out of a row alone.
type packed struct {
	box, out  []api.Node
	bad, over int
	e         api.Errno
}

func (p packed) same(q packed) bool {
	return slices.Equal(p.box, q.box) && slices.Equal(p.out, q.out) && p.bad == q.bad && p.over == q.over && p.e == q.e
}

// node: the box's own.
func (p packed) node() api.Node {
	if len(p.box) == 0 {
		return api.Node{}
	}
	return p.box[0]
}

// call: one of the three, so that what holds for all is asked of all. A row has no greatest depth.
type call func(l []api.Node, to int, exact bool, most int) packed

func hpack(l []api.Node, to int, exact bool, _ int) packed {
	var p packed
	p.box, p.out, p.bad, p.over, p.e = pack.Hpack(l, to, exact)
	return p
}

func vpack(l []api.Node, to int, exact bool, most int) packed {
	var p packed
	p.box, p.bad, p.over, p.e = pack.Vpack(l, to, exact, most)
	return p
}

func vtop(l []api.Node, to int, exact bool, most int) packed {
	var p packed
	p.box, p.bad, p.over, p.e = pack.Vtop(l, to, exact, most)
	return p
}

func calls() map[string]call { return map[string]call{"Hpack": hpack, "Vpack": vpack, "Vtop": vtop} }

// rowIs: a row is packed with just that node around just that, and that leaves it.
func rowIs(t *testing.T, name string, got packed, n api.Node, stays, out []api.Node, bad, over int) {
	t.Helper()
	n.Kind = api.HBox
	if want := (packed{open(n, stays), out, bad, over, api.OK}); !got.same(want) {
		t.Errorf("%s: %v; want %v", name, got, want)
	}
}

// columnIs: a column is packed with just that node.
func columnIs(t *testing.T, name string, got packed, n api.Node, l []api.Node, bad, over int) {
	t.Helper()
	n.Kind = api.VBox
	if want := (packed{open(n, l), nil, bad, over, api.OK}); !got.same(want) {
		t.Errorf("%s: %v; want %v", name, got, want)
	}
}

func fails(t *testing.T, name string, got packed, e api.Errno) {
	t.Helper()
	if !got.same(packed{e: e}) {
		t.Errorf("%s: %v; want the error %d", name, got, e)
	}
}

// wrongLists: some for each of a list's errors.
func wrongLists() map[api.Errno][][]api.Node {
	return map[api.Errno][][]api.Node{
		api.ErrSize: {repeat(kern(1), api.MaxNodes+1), nested(1001, nil), make([]api.Node, api.MaxNodes+1)},
		api.ErrList: {
			{{}}, {{Kind: api.End}}, {{Kind: api.HBox}}, {{Kind: api.Sep}}, {{Kind: 18}}, kern(most + 1), rule(1, 1, 0, 0),
			hbox(0, 0, 0, 0)[1:], nested(50, nil)[1:], join(nested(50, nil), kern(-most-1)),
		},
		api.ErrDeep: {nested(41, nil), nested(40, kern(1)), nested(1000, nil), join(kern(1), nested(41, nil))},
	}
}

// random: numbers, the same ones each time.
type random struct{ state uint64 }

func (r *random) below(n int) int {
	r.state = r.state*6364136223846793005 + 1442695040888963407
	return int(r.state>>33) % n
}

func pick[T any](r *random, l ...T) T { return l[r.below(len(l))] }

// size: mostly a small one, and now and then one below 0.
func (r *random) size() int {
	switch r.below(12) {
	case 0:
		return pick(r, most, -most, most-1, most/2, -most/2)
	case 1, 2:
		return -r.below(9)
	}
	return r.below(1 + pick(r, 9, pt, 20*pt))
}

func (r *random) flex() (size, order int) { return r.size(), pick(r, 0, 0, 0, 1, 2, 3) }

func (r *random) skip() []api.Node {
	stretch, stretchOrder := r.flex()
	shrink, shrinkOrder := r.flex()
	return skip(r.size(), stretch, stretchOrder, shrink, shrinkOrder)
}

func (r *random) rule() []api.Node {
	n := api.Node{Kind: api.Rule, Sub: r.below(4)}
	if n.Sub&1 == 0 {
		n.W = r.size()
	}
	if n.Sub&2 == 0 {
		n.H, n.D = r.size(), r.size()
	}
	return one(n)
}

func (r *random) box(deep int) []api.Node {
	n := api.Node{Kind: pick(r, api.HBox, api.VBox), W: r.size(), H: r.size(), D: r.size(), Shift: pick(r, 0, r.size())}
	n.Sign = r.below(3)
	if n.Sign != api.Still {
		n.Order, n.Num, n.Den = r.below(4), 1+r.below(99), 1+r.below(9999)
	}
	if n.Sign == api.Shrinking && n.Order == 0 {
		n.Num = min(n.Num, n.Den)
	}
	return open(n, r.list(4, deep-1))
}

// part: an item that may stand in a Disc.
func (r *random) part(deep int) []api.Node {
	switch r.below(4) {
	case 0:
		return r.rule()
	case 1:
		return r.box(min(deep, 1))
	case 2:
		return kern(r.size())
	}
	return char(r.size(), r.size(), r.size())
}

// parts: one of a Disc's lists, that comes to no more than a dimension.
func (r *random) parts(deep int) []api.Node {
	var l []api.Node
	for range r.below(3) {
		l = append(l, r.part(deep)...)
	}
	if _, e := nodes.Totals(l, false); e != api.OK {
		return nil
	}
	return l
}

// item: one that may stand in a column.
func (r *random) item(deep int) []api.Node {
	switch r.below(10) {
	case 0:
		return kern(r.size())
	case 1:
		return mark("m")
	case 2:
		return insert(r.list(3, deep-1))
	case 3:
		return one(api.Node{Kind: api.Penalty, Penalty: r.below(99)})
	case 4:
		return one(api.Node{Kind: api.Special, Text: "s"})
	case 5, 6:
		return r.skip()
	case 7:
		return r.rule()
	}
	return r.box(deep)
}

// rowItem: one that may not.
func (r *random) rowItem(deep int) []api.Node {
	switch r.below(7) {
	case 0:
		return one(api.Node{Kind: api.Lig, Char: 12, W: r.size(), H: r.size(), D: r.size(), Text: "fi"})
	case 1:
		return disc(r.parts(deep), r.parts(deep), r.parts(deep))
	case 2:
		return one(api.Node{Kind: pick(r, api.MathOn, api.MathOff), W: r.size()})
	case 3, 4:
		return adjust(r.list(3, deep-1))
	}
	return char(r.size(), r.size(), r.size())
}

// list: of at most so many items of all kinds.
func (r *random) list(many, deep int) []api.Node {
	if deep < 0 {
		return nil
	}
	return r.items(many, deep, true)
}

func (r *random) items(many, deep int, row bool) []api.Node {
	var l []api.Node
	for range r.below(many + 1) {
		if row && r.below(2) == 0 {
			l = append(l, r.rowItem(deep)...)
		} else {
			l = append(l, r.item(deep)...)
		}
	}
	return l
}

// lists: so many; half of them columns. Some come to more than a dimension, as many do that are made so.
func (r *random) lists(t *testing.T, many int) [][]api.Node {
	l := [][]api.Node{nil, {}}
	for i := range many {
		l = append(l, r.items(8, r.below(4), i%2 == 0))
		if e := nodes.Check(l[len(l)-1]); e != api.OK {
			t.Fatalf("no list: %v", l[len(l)-1])
		}
	}
	return l
}

// asked: what a box may be asked to be.
func (r *random) asked() (to int, exact bool, deepest int) {
	to, deepest = r.size(), r.size()
	if r.below(2) == 0 {
		to = (r.below(81) - 40) * pt
	}
	return to, r.below(2) == 0, deepest
}
