package words

import (
	"slices"

	"galley/api"
)

// cut: a word's nodes from from to ahead of to, and what stands in their stead at a break, ahead of it and behind it.
type cut struct {
	from, to      int
	ahead, behind []api.Node
}

// cut: of a place; false, if there is no making what is ahead of it, or behind it.
func (w *word) cut(p int, hyphen byte) (cut, bool) {
	ahead, e := w.madeOf(w.font, append(slices.Clone(w.letters[:p]), hyphen), w.left, false)
	if e != api.OK {
		return cut{}, false
	}
	behind, e := w.madeOf(w.font, w.letters[p:], true, w.right)
	if e != api.OK {
		return cut{}, false
	}
	from := w.alike(p, ahead)
	to := w.alikeFrom(from, behind)
	return cut{from, to, ahead[from:], behind[:len(behind)-(len(w.nodes)-to)]}, true
}

// alike: how many of a word's first nodes are the first ones of what is ahead of a place, too, and stand ahead of it.
func (w *word) alike(p int, ahead []api.Node) int {
	n := 0
	for n < min(len(w.nodes), len(ahead)) && w.ahead[n+1] <= p && w.nodes[n] == ahead[n] {
		n++
	}
	return n
}

// alikeFrom: from where on, but from from on at the earliest, the word's nodes are the last ones of what is behind a
// place, too. (These have no more letters than stand there, so they are never from ahead of the place.)
func (w *word) alikeFrom(from int, behind []api.Node) int {
	to := len(w.nodes)
	for at := len(behind); to > from && at > 0 && w.nodes[to-1] == behind[at-1]; at-- {
		to--
	}
	return to
}

// discretionary: of a cut.
func (w *word) discretionary(c cut) []api.Node {
	sep := []api.Node{{Kind: api.Sep}}
	return slices.Concat([]api.Node{{Kind: api.Disc}}, c.ahead, sep, c.behind, sep, w.nodes[c.from:c.to], []api.Node{{Kind: api.End}})
}
