package vlist

import (
	"slices"

	"galley/api"
	"galley/items"
	"galley/sizes"
)

// interline: what comes between a depth and a box of that height; nothing, if none is wanted.
func interline(before, height int, baseline, line api.Glue, limit int) ([]api.Node, api.Errno) {
	if before <= none {
		return nil, api.OK
	}
	left := baseline.Nat - before - height
	if !sizes.Dimensions(left) {
		return nil, api.ErrArith
	}
	if left < limit {
		return []api.Node{{Kind: api.Skip, Glue: line, Sub: fromLine}}, api.OK
	}
	baseline.Nat = left
	return []api.Node{{Kind: api.Skip, Glue: baseline, Sub: fromBaseline}}, api.OK
}

// pruned: of a column and glue that may be.
func pruned(l []api.Node, top api.Glue) ([]api.Node, api.Errno) {
	var kept []api.Node
	for at, item := range items.Of(l) {
		if n := &item[0]; solid(n.Kind) {
			whole := slices.Concat(kept, []api.Node{topSkip(top, n.H)}, l[at:])
			if len(whole) > api.MaxNodes {
				return nil, api.ErrSize
			}
			return whole, api.OK
		}
		if !falls(item[0].Kind) {
			kept = append(kept, item...)
		}
	}
	return kept, api.OK
}

// topSkip: top, less the height of what it stands ahead of.
func topSkip(top api.Glue, height int) api.Node {
	top.Nat = min(max(top.Nat-height, 0), api.MaxDimen)
	return api.Node{Kind: api.Skip, Glue: top, Sub: fromTop}
}
