package breaks_test

import (
	"slices"
	"testing"

	"galley/api"
	"galley/breaks"
)

const (
	pt     = api.Unity
	most   = api.MaxDimen
	number = api.MaxNumber
)

func join(parts ...[]api.Node) []api.Node { return slices.Concat(parts...) }

func one(n api.Node) []api.Node { return []api.Node{n} }

func open(n api.Node, contents ...[]api.Node) []api.Node {
	return join(one(n), join(contents...), one(api.Node{Kind: api.End}))
}

func char(w int) []api.Node { return one(api.Node{Kind: api.Char, Char: 'a', W: w}) }

func box(w int, contents ...[]api.Node) []api.Node {
	return open(api.Node{Kind: api.HBox, W: w, H: 7, D: 9, Shift: 11}, contents...)
}

func kern(w, sub int) []api.Node { return one(api.Node{Kind: api.Kern, W: w, Sub: sub}) }

func penalty(q int) []api.Node { return one(api.Node{Kind: api.Penalty, Penalty: q}) }

func glued(g api.Glue) []api.Node { return one(api.Node{Kind: api.Skip, Glue: g}) }

func skip(nat, stretch, shrink int) []api.Node {
	return glued(api.Glue{Nat: nat, Stretch: stretch, Shrink: shrink})
}

// fill: glue that stretches without end.
func fill(order int) []api.Node { return glued(api.Glue{Stretch: 1, StretchOrder: order}) }

func formula(kind, w int) []api.Node { return one(api.Node{Kind: kind, W: w}) }

func disc(ahead, behind, unbroken []api.Node) []api.Node {
	sep := one(api.Node{Kind: api.Sep})
	return open(api.Node{Kind: api.Disc}, ahead, sep, behind, sep, unbroken)
}

// hyphen: a Disc of a width at a break, and of none without one.
func hyphen(w int) []api.Node { return disc(char(w), nil, nil) }

func mark() []api.Node { return one(api.Node{Kind: api.Mark, Text: "m"}) }

func insert(contents ...[]api.Node) []api.Node {
	return open(api.Node{Kind: api.Ins, Sub: 7, H: 99 * pt, D: 9 * pt, Glue: api.Glue{Nat: 5, Stretch: 5, Shrink: 5}}, contents...)
}

func adjust(contents ...[]api.Node) []api.Node { return open(api.Node{Kind: api.Adjust}, contents...) }

// four: W of the chapter's examples.
func four() []api.Node {
	gap := skip(5*pt, 3*pt, pt)
	return join(box(30*pt), gap, box(30*pt), gap, box(30*pt), gap, box(30*pt))
}

func params(hsize int) api.Params { return api.Params{Hsize: hsize, LinePenalty: 10} }

func with(p api.Params, change func(p *api.Params)) api.Params {
	change(&p)
	return p
}

// totals: of natural size, stretching and shrinking of order 0.
func totals(nat, stretch, shrink int) api.Totals {
	return api.Totals{Nat: nat, Stretch: [4]int{stretch}, Shrink: [4]int{shrink}}
}

func legalIs(t *testing.T, name string, l []api.Node, p api.Params, at, penalties []int) {
	t.Helper()
	a, q, e := breaks.Legal(l, p)
	if !slices.Equal(a, at) || !slices.Equal(q, penalties) || e != api.OK {
		t.Errorf("Legal of %s: %v, %v, %d; want %v, %v", name, a, q, e, at, penalties)
	}
}

func lineIs(t *testing.T, l []api.Node, p api.Params, from, to int, want api.Totals) {
	t.Helper()
	if got, e := breaks.Line(l, p, from, to); got != want || e != api.OK {
		t.Errorf("Line from %d to %d: %v, %d; want %v", from, to, got, e, want)
	}
}

func lineIsnt(t *testing.T, l []api.Node, p api.Params, from, to int, want api.Errno) {
	t.Helper()
	if got, e := breaks.Line(l, p, from, to); got != (api.Totals{}) || e != want {
		t.Errorf("Line from %d to %d: %v, %d; want %d", from, to, got, e, want)
	}
}

func costIs(t *testing.T, name string, l []api.Node, p api.Params, tolerance, extra int, want ...breaks.Break) {
	t.Helper()
	var at []int
	for _, b := range want {
		at = append(at, b.At)
	}
	if got, e := breaks.Cost(l, p, tolerance, extra, at); !slices.Equal(got, want) || e != api.OK {
		t.Errorf("Cost of %s, %v: %v, %d; want %v", name, at, got, e, want)
	}
}

func costIsnt(t *testing.T, name string, l []api.Node, p api.Params, tolerance, extra int, at []int, want api.Errno) {
	t.Helper()
	if got, e := breaks.Cost(l, p, tolerance, extra, at); len(got) != 0 || e != want {
		t.Errorf("Cost of %s, %v: %v, %d; want %d", name, at, got, e, want)
	}
}

// choice: what Choose answers.
type choice struct {
	chosen []breaks.Break
	loose  int
	e      api.Errno
}

func choose(l []api.Node, p api.Params, tolerance, extra int, last bool) choice {
	var c choice
	c.chosen, c.loose, c.e = breaks.Choose(l, p, tolerance, extra, last)
	return c
}

func (c choice) same(d choice) bool {
	return slices.Equal(c.chosen, d.chosen) && c.loose == d.loose && c.e == d.e
}

func (c choice) at() []int {
	var at []int
	for _, b := range c.chosen {
		at = append(at, b.At)
	}
	return at
}

// demerits: of all lines.
func (c choice) demerits() int {
	sum := 0
	for _, b := range c.chosen {
		sum += b.Demerits
	}
	return sum
}

// chooses: these places, as Cost tells them.
func chooses(t *testing.T, name string, l []api.Node, p api.Params, tolerance int, last bool, loose int, at ...int) {
	t.Helper()
	got := choose(l, p, tolerance, 0, last)
	if !slices.Equal(got.at(), at) || got.loose != loose || got.e != api.OK {
		t.Errorf("Choose of %s: %v, loose %d, %d; want %v, %d", name, got.at(), got.loose, got.e, at, loose)
		return
	}
	if told, e := breaks.Cost(l, p, tolerance, 0, at); !slices.Equal(told, got.chosen) || e != api.OK {
		t.Errorf("Choose of %s: %v; Cost of it: %v, %d", name, got.chosen, told, e)
	}
}

func choosesNone(t *testing.T, name string, l []api.Node, p api.Params, tolerance, extra int, last bool, want api.Errno) {
	t.Helper()
	if got := choose(l, p, tolerance, extra, last); !got.same(choice{e: want}) {
		t.Errorf("Choose of %s: %v; want %d", name, got, want)
	}
}
