package vlist

import (
	"galley/api"
	"galley/sizes"
)

// deplorable: the cost of a break that leaves a column as bad as may be, without being awful.
const deplorable = 100000

// measure: of what stands ahead of a spot.
type measure struct {
	totals api.Totals // no dimensions, but far from what would wrap round
	depth  int        // of the last box or rule, as long as nothing stands below it; the totals have it
	stays  bool       // the item right ahead: would it stay at a column's top?
}

// with: one item more, whose first node this is.
func (m measure) with(n *api.Node) measure {
	m.stays = !falls(n.Kind)
	switch {
	case solid(n.Kind):
		m.totals.Nat += n.H + n.D
		m.depth = n.D
	case n.Kind == api.Skip:
		m.totals.Nat += n.Glue.Nat
		m.totals.Stretch[n.Glue.StretchOrder] += n.Glue.Stretch
		m.totals.Shrink[n.Glue.ShrinkOrder] += n.Glue.Shrink
		m.depth = 0
	case n.Kind == api.Kern:
		m.totals.Nat += n.W
		m.depth = 0
	}
	return m
}

// size: the totals without the depth, and the depth, of which no more than most stays one.
func (m measure) size(most int) (t api.Totals, depth int) {
	t, depth = m.totals, min(m.depth, most)
	t.Nat -= depth
	return t, depth
}

// cost: of a break at a spot.
func (s spot) cost(height, depth int) int {
	t, _ := s.ahead.size(depth)
	b, full := sizes.Badness(t, height)
	switch {
	case full:
		return api.Awful
	case s.forced():
		return s.penalty
	case b < api.Infinite:
		return b + s.penalty
	}
	return deplorable
}

// best: of a column's breaks, and its cost. Behind one that is forced, or too high, none can be better.
func best(l []api.Node, height, depth int) (chosen spot, least int) {
	least = api.Awful
	for s := range breaks(l) {
		cost := s.cost(height, depth)
		if cost <= least {
			chosen, least = s, cost
		}
		if s.forced() || cost == api.Awful {
			break
		}
	}
	return chosen, least
}
