package pack

import (
	"iter"

	"galley/api"
)

// items: where those of a list begin, and what they are. (In a Disc a Sep comes as one, too.)
func items(l []api.Node) iter.Seq2[int, []api.Node] {
	return func(yield func(int, []api.Node) bool) {
		for from := 0; from < len(l); {
			to := behind(l, from)
			if !yield(from, l[from:to]) {
				return
			}
			from = to
		}
	}
}

// behind: where the item ends that begins at a place.
func behind(l []api.Node, at int) int {
	open := 0
	for ; at < len(l); at++ {
		switch l[at].Kind {
		case api.HBox, api.VBox, api.Disc, api.Ins, api.Adjust:
			open++
		case api.End:
			open--
		}
		if open == 0 {
			return at + 1
		}
	}
	return at
}

// parted: what stays in a row, and what leaves it for the column around it.
func parted(l []api.Node) (stays, leaves []api.Node) {
	stays = make([]api.Node, 0, len(l)) // most rows stay whole
	for _, item := range items(l) {
		switch item[0].Kind {
		case api.Adjust:
			item = item[1 : len(item)-1] // it is there only for the sake of its contents
			fallthrough
		case api.Ins, api.Mark:
			leaves = append(leaves, item...)
		default:
			stays = append(stays, item...)
		}
	}
	return stays, leaves
}

// upright: may all of these stand in a column?
func upright(l []api.Node) bool {
	for _, item := range items(l) {
		switch item[0].Kind {
		case api.Char, api.Lig, api.Disc, api.MathOn, api.MathOff, api.Adjust:
			return false
		}
	}
	return true
}
