package vlist

import (
	"iter"

	"galley/api"
	"galley/glue"
	"galley/items"
	"galley/nodes"
	"galley/sizes"
)

// finite: is it glue that a column may have?
func finite(g api.Glue) bool { return glue.Check(g) == api.OK && sizes.Finite(g) }

// check: the column's error.
func check(l []api.Node) api.Errno {
	if e := nodes.Check(l); e != api.OK {
		return e
	}
	if !items.Upright(l) {
		return api.ErrList
	}
	for _, item := range items.Of(l) {
		if item[0].Kind == api.Skip && !finite(item[0].Glue) {
			return api.ErrGlue
		}
	}
	return api.OK
}

// falls: does it fall away at a column's top?
func falls(kind int) bool { return kind == api.Skip || kind == api.Kern || kind == api.Penalty }

// solid: is it a box or a rule?
func solid(kind int) bool { return kind == api.HBox || kind == api.VBox || kind == api.Rule }

// spot: a place in a column where an item of it begins, or its end; the penalty of a break there: Infinite, where there is none.
type spot struct {
	at, penalty int
	ahead       measure
}

// forced: must the column be broken here?
func (s spot) forced() bool { return s.penalty <= api.Eject }

// spots: all of a column, one by one.
func spots(l []api.Node) iter.Seq[spot] {
	return func(yield func(spot) bool) {
		var ahead measure
		for at, item := range items.Of(l) {
			if !yield(spot{at, penalty(l, at, ahead.stays), ahead}) {
				return
			}
			ahead = ahead.with(&item[0])
		}
		yield(spot{len(l), api.Eject, ahead})
	}
}

// penalty: of a break at an item: does the one ahead of it stay at a column's top?
func penalty(l []api.Node, at int, stays bool) int {
	switch l[at].Kind {
	case api.Skip:
		if stays {
			return 0
		}
	case api.Kern:
		if at+1 < len(l) && l[at+1].Kind == api.Skip {
			return 0
		}
	case api.Penalty:
		return l[at].Penalty
	}
	return api.Infinite
}

// breaks: the spots at which a column may be broken.
func breaks(l []api.Node) iter.Seq[spot] {
	return func(yield func(spot) bool) {
		for s := range spots(l) {
			if s.penalty < api.Infinite && !yield(s) {
				return
			}
		}
	}
}

// find: the one of these spots that is at a place.
func find(these iter.Seq[spot], at int) (s spot, found bool) {
	for s := range these {
		if s.at == at {
			return s, true
		}
	}
	return spot{}, false
}
