package pack

import (
	"galley/api"
	"galley/glue"
	"galley/nodes"
	"galley/scaled"
	"galley/sizes"
)

// maker: of boxes' nodes: what is asked of the box.
type maker struct {
	to    int
	exact bool
	most  int // how deep a column may be
}

// made: a box's node, how bad its glue is set, and by how much the box is too full.
type made struct {
	node      api.Node
	bad, over int
}

// making: of contents, one of a maker's ways.
type making func(contents []api.Node) (made, api.Errno)

// size: what is asked for, where contents come to so much.
func (m maker) size(natural int) int {
	if m.exact {
		return m.to
	}
	return natural + m.to
}

// measured: what contents come to, and how far they reach.
func measured(l []api.Node, down bool) (t api.Totals, a, b int, e api.Errno) {
	if t, e = nodes.Totals(l, down); e == api.OK {
		a, b, e = nodes.Extent(l, down)
	}
	return t, a, b, e
}

func (m maker) row(l []api.Node) (made, api.Errno) {
	t, height, depth, e := measured(l, false)
	if e != api.OK {
		return made{}, e
	}
	width := m.size(t.Nat)
	if !sizes.Dimensions(width) {
		return made{}, api.ErrArith
	}
	b := made{node: api.Node{Kind: api.HBox, W: width, H: height, D: depth}}
	return b.set(l, t, width-t.Nat)
}

func (m maker) column(l []api.Node) (made, api.Errno) {
	t, width, depth, e := measured(l, true)
	if e != api.OK {
		return made{}, e
	}
	// What the last item is too deep by counts as height: nothing of the column is lost.
	depth = min(depth, m.most)
	natural := t.Nat - depth
	height := m.size(natural)
	if !sizes.Dimensions(natural, height) {
		return made{}, api.ErrArith
	}
	b := made{node: api.Node{Kind: api.VBox, W: width, H: height, D: depth}}
	return b.set(l, t, height-natural)
}

// hanging: a column whose baseline is that of its first item.
func (m maker) hanging(l []api.Node) (made, api.Errno) {
	b, e := m.column(l)
	if e != api.OK {
		return made{}, e
	}
	height := firstHeight(l)
	depth := b.node.H + b.node.D - height
	if !sizes.Dimensions(depth) {
		return made{}, api.ErrArith
	}
	b.node.H, b.node.D = height, depth
	return b, api.OK
}

// firstHeight: of the first item, if it is one that has a height. (What a Rule leaves to the box, it has as 0.)
func firstHeight(l []api.Node) int {
	if len(l) == 0 {
		return 0
	}
	switch l[0].Kind {
	case api.Rule, api.HBox, api.VBox:
		return l[0].H
	}
	return 0
}

// set: the box with its glue set, so that it is so much greater than its contents.
func (b made) set(l []api.Node, t api.Totals, excess int) (made, api.Errno) {
	n := &b.node
	var e api.Errno
	n.Sign, n.Order, n.Num, n.Den, e = glue.Fit(t, excess)
	if e != api.OK {
		return made{}, e
	}
	if len(l) > 0 { // nothing is never set badly
		b.bad, b.over = judged(n.Order, t, excess)
	}
	return b, api.OK
}

// judged: how bad glue is set of that order, and by how much it is too full.
func judged(order int, t api.Totals, excess int) (bad, over int) {
	switch {
	case excess == 0 || order > 0:
		return 0, 0
	case excess > 0:
		return badness(excess, t.Stretch[0]), 0
	}
	less, shrink := -excess, max(t.Shrink[0], 0)
	if less > shrink {
		return Over, less - shrink
	}
	return badness(less, shrink), 0
}

// badness: the sums of a row may be greater than scaled's numbers, and below 0.
func badness(by, sum int) int {
	bad, _ := scaled.Badness(by, min(max(sum, 0), api.MaxNumber))
	return bad
}
