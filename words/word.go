package words

import (
	"slices"

	"galley/api"
)

// word: nodes of one font of a setup, and what is known of them.
type word struct {
	*Setup
	font        int
	nodes       []api.Node
	letters     []byte // themselves, not as they count
	ahead       []int  // how many letters stand ahead of each node, and ahead of the end
	left, right bool   // whether it was made with them
}

// isWord: do all of a list's nodes stand in one word? (It need not be one that Find finds.)
func (s *Setup) isWord(l []api.Node) bool {
	if len(l) == 0 || !lettered(l[0]) || !s.has(l[0].Font) {
		return false
	}
	return !slices.ContainsFunc(l, func(n api.Node) bool { return !s.wordly(n, l[0].Font) })
}

// wordOf: of nodes that are one.
func (s *Setup) wordOf(l []api.Node) *word {
	w := &word{Setup: s, font: l[0].Font, nodes: l, ahead: make([]int, 1, len(l)+1)}
	for _, n := range l {
		for _, letter := range letters(n) {
			w.letters = append(w.letters, byte(letter))
		}
		w.ahead = append(w.ahead, len(w.letters))
	}
	return w
}

// counted: its letters, as they count.
func (w *word) counted() string {
	text := make([]byte, len(w.letters))
	for i, c := range w.letters {
		text[i], _ = w.counts(rune(c))
	}
	return string(text)
}

// places: may it be asked for a break at these?
func (w *word) places(at []int) bool {
	last := 0
	for _, p := range at {
		if p <= last || p >= len(w.letters) {
			return false
		}
		last = p
	}
	return true
}

// known finds out with what it was made; false, if it was made with nothing of all that. The order of what is tried
// tells which one it is, if several make the same.
func (w *word) known() bool {
	for _, right := range [2]bool{false, true} {
		for _, left := range [2]bool{false, true} {
			l, e := w.madeOf(w.font, w.letters, left, right)
			if e == api.OK && slices.Equal(l, w.nodes) {
				w.left, w.right = left, right
				return true
			}
		}
	}
	return false
}

// broken: with the discretionaries of places that it has.
func (w *word) broken(at []int) ([]api.Node, api.Errno) {
	hyphen, found := w.hyphen(w.font)
	if !found || !w.known() {
		return nil, api.ErrNone
	}
	var l []api.Node
	done := 0
	for _, p := range at {
		// Its cut begins at p at the latest: of one that does so too early nothing need be made.
		if p < w.ahead[done] {
			continue
		}
		c, found := w.cut(p, hyphen)
		if !found || c.from < done {
			continue
		}
		l = append(append(l, w.nodes[done:c.from]...), w.discretionary(c)...)
		done = c.to
		// It never grows less, so that what is too much already need not be gone on with.
		if len(l)+len(w.nodes)-done > api.MaxNodes {
			return nil, api.ErrSize
		}
	}
	return append(l, w.nodes[done:]...), api.OK
}
