package breaks

import (
	"slices"

	"galley/api"
	"galley/glue"
	"galley/items"
	"galley/nodes"
	"galley/sizes"
)

// paragraph: a list, and where it may be broken.
type paragraph struct {
	api.Params
	items  []item
	sums   []api.Totals // of all items ahead of each one, and of the end
	sides  api.Totals   // what each line has beside its contents
	breaks []place      // the beginning, then the legal ones, rising
}

// item: of the list itself: where it begins, its first node, and of a Disc its lists: ahead of a break, behind it, and without one.
type item struct {
	api.Node
	at    int
	lists [3][]api.Node
}

// place: a break, or the beginning.
type place struct {
	at, penalty int
	disc, end   bool
	item, first int        // the item that is broken at, and the first one of a line that begins here
	upTo        api.Totals // of all ahead of it, and of what stands there only if it is broken here
	behind      api.Totals // what is to be taken off upTo of a later break, so that the line between the two is left
	most        lengths    // the greatest ones of behind, of this place and of those ahead
}

// lengths: as it is by nature, and when it has shrunk by all that there is. (Where that is below 0 the latter is the greater one.)
type lengths struct {
	natural, shrunk int
}

func lengthsOf(t api.Totals) lengths { return lengths{t.Nat, t.Nat - t.Shrink[0]} }

func (a lengths) or(b lengths) lengths {
	return lengths{max(a.natural, b.natural), max(a.shrunk, b.shrunk)}
}

// paragraphOf: of a list and parameters that may be, or the first one's error.
func paragraphOf(l []api.Node, p api.Params) (*paragraph, api.Errno) {
	if e := Check(p); e != api.OK {
		return nil, e
	}
	if e := nodes.Check(l); e != api.OK {
		return nil, e
	}
	t := &paragraph{Params: p}
	for at, item := range items.Of(l) {
		t.items = append(t.items, itemOf(item, at))
	}
	for _, n := range t.items {
		if n.Kind == api.Skip && !sizes.Finite(n.Glue) {
			return nil, api.ErrGlue
		}
	}
	t.measure()
	t.seek(len(l))
	return t, api.OK
}

func itemOf(l []api.Node, at int) item {
	n := item{Node: l[0], at: at}
	if n.Kind == api.Disc {
		n.lists[0], n.lists[1], n.lists[2], _ = nodes.Parts(l, 0)
	}
	return n
}

// totals: along a row. (Only what has a width there has a W.)
func (n *item) totals() api.Totals {
	switch n.Kind {
	case api.Skip:
		return glued(n.Glue)
	case api.Disc:
		return api.Totals{Nat: natural(n.lists[2])}
	}
	return api.Totals{Nat: n.W}
}

// natural: of one of a Disc's lists, in which there is no glue.
func natural(l []api.Node) int {
	width := 0
	for at := range items.Of(l) {
		width += l[at].W
	}
	return width
}

// glued: of glue that may be.
func glued(g ...api.Glue) api.Totals {
	t, _ := glue.Sum(g)
	return t
}

// grown: with so many times as much more. Sums of a paragraph are no dimensions, but far from what would wrap round.
func grown(t, by api.Totals, times int) api.Totals {
	t.Nat += times * by.Nat
	for order := range t.Stretch {
		t.Stretch[order] += times * by.Stretch[order]
		t.Shrink[order] += times * by.Shrink[order]
	}
	return t
}

func (t *paragraph) measure() {
	t.sides = glued(t.Left, t.Right)
	sum := api.Totals{}
	t.sums = append(t.sums, sum)
	for i := range t.items {
		sum = grown(sum, t.items[i].totals(), 1)
		t.sums = append(t.sums, sum)
	}
}

// seek: all breaks of a list of so many nodes.
func (t *paragraph) seek(end int) {
	t.breaks = append(t.breaks, place{at: -1})
	for i, n := range t.items {
		if q := t.penalty(i); q < api.Infinite {
			t.put(place{at: n.at, penalty: q, disc: n.Kind == api.Disc, item: i})
		}
	}
	t.put(place{at: end, penalty: api.Eject, end: true, item: len(t.items)})
}

// penalty: of a break at an item; Infinite, if there is none.
func (t *paragraph) penalty(i int) int {
	n := &t.items[i]
	switch n.Kind {
	case api.Skip:
		if i > 0 && !t.items[i-1].falls() {
			return 0
		}
	case api.Kern, api.MathOff:
		asked := n.Kind == api.MathOff || n.Sub == 1
		if asked && i+1 < len(t.items) && t.items[i+1].Kind == api.Skip {
			return 0
		}
	case api.Penalty:
		return n.Penalty
	case api.Disc:
		if len(n.lists[0]) > 0 {
			return t.HyphenPenalty
		}
		return t.ExHyphenPenalty
	}
	return api.Infinite
}

// falls: does it fall away at the beginning of a line?
func (n *item) falls() bool {
	switch n.Kind {
	case api.Skip, api.Kern, api.Penalty, api.MathOn, api.MathOff:
		return true
	}
	return false
}

// put: a break, with what the lines to it and from it are measured by.
func (t *paragraph) put(b place) {
	b.upTo = t.sums[b.item]
	var again []api.Node
	if b.disc {
		lists := &t.items[b.item].lists
		b.upTo.Nat += natural(lists[0])
		again = lists[1]
	}
	b.first = t.beginning(b, len(again) > 0)
	b.behind = t.sums[b.first]
	b.behind.Nat -= natural(again)
	b.most = lengthsOf(b.behind).or(t.breaks[len(t.breaks)-1].most)
	t.breaks = append(t.breaks, b)
}

// beginning: the first item of a line behind a break. Where the break itself puts something there, nothing falls away.
func (t *paragraph) beginning(b place, filled bool) int {
	at := b.item
	if b.disc {
		at++
	}
	for !filled && at < len(t.items) && t.items[at].falls() {
		at++
	}
	return at
}

// forced: must a line end here?
func (b *place) forced() bool { return b.penalty <= api.Eject }

// find: the number of a break, 0 of the beginning, -1 of what is none.
func (t *paragraph) find(at int) int {
	return slices.IndexFunc(t.breaks, func(b place) bool { return b.at == at })
}

// line: the totals between two breaks.
func (t *paragraph) line(from, to int) api.Totals {
	a, b := &t.breaks[from], &t.breaks[to]
	if a.first > b.item { // all between the two falls away, and the later one itself
		return t.sides
	}
	return grown(grown(t.sides, b.upTo, 1), a.behind, -1)
}
