// Package items is what several layers ask of the items of a list by chapter 5.
package items

import (
	"iter"

	"galley/api"
)

// Of: where the items of a list itself begin, and what they are. (Of a Disc's contents each Sep comes as one, too.) They are the list's own memory, but none has room behind it.
func Of(l []api.Node) iter.Seq2[int, []api.Node] {
	return func(yield func(int, []api.Node) bool) {
		from, open := 0, 0
		for at, n := range l {
			switch n.Kind {
			case api.HBox, api.VBox, api.Disc, api.Ins, api.Adjust:
				open++
			case api.End:
				open--
			}
			if open > 0 {
				continue
			}
			if !yield(from, l[from:at+1:at+1]) {
				return
			}
			from = at + 1
		}
	}
}

// Upright: may all items of a list stand in a column?
func Upright(l []api.Node) bool {
	for _, item := range Of(l) {
		switch item[0].Kind {
		case api.Char, api.Lig, api.Disc, api.MathOn, api.MathOff, api.Adjust:
			return false
		}
	}
	return true
}
