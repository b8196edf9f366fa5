package words

import (
	"iter"
	"unicode/utf8"

	"galley/api"
)

// skips: the places of a list's own Skips, without those within its items.
func skips(l []api.Node) iter.Seq[int] {
	return func(yield func(int) bool) {
		deep := 0
	walk:
		for at, n := range l {
			switch n.Kind {
			case api.HBox, api.VBox, api.Disc, api.Ins, api.Adjust:
				deep++
			case api.End:
				deep--
			case api.Skip:
				if deep == 0 && !yield(at) {
					break walk
				}
			}
		}
	}
}

// words: where each word of a row begins, and the place behind it.
func (s *Setup) words(l []api.Node) iter.Seq2[int, int] {
	return func(yield func(int, int) bool) {
		for at := range skips(l) {
			from, begins := s.beginning(l, at+1)
			if !begins {
				continue
			}
			to, letters := s.reach(l, from)
			if letters >= s.Left+s.Right && ends(l, to) && !yield(from, to) {
				return
			}
		}
	}
}

// beginning: where the word behind a Skip begins, if one may begin there.
func (s *Setup) beginning(l []api.Node, at int) (from int, found bool) {
	for at < len(l) && s.ahead(l[at]) {
		at++
	}
	if at == len(l) || !lettered(l[at]) || !s.has(l[at].Font) {
		return 0, false
	}
	if _, found := s.hyphen(l[at].Font); !found {
		return 0, false
	}
	letter := first(l[at])
	c, _ := s.counts(letter)
	return at, s.Upper || rune(c) == letter
}

// ahead: may a node stand between a Skip and the word behind it?
func (s *Setup) ahead(n api.Node) bool {
	if lettered(n) {
		_, counts := s.counts(first(n))
		return !counts
	}
	return between(n) || n.Kind == api.Special
}

// first: of a node's letters.
func first(n api.Node) rune {
	letter, _ := utf8.DecodeRuneInString(letters(n))
	return letter
}

// reach: the place behind the word that begins at from, and how many letters it has. (None, if what stands at from is no
// part of a word itself.)
func (s *Setup) reach(l []api.Node, from int) (to, n int) {
	to = from
	for at := from; at < len(l) && s.wordly(l[at], l[from].Font); at++ {
		own := utf8.RuneCountInString(letters(l[at]))
		if n+own > api.MaxWord {
			break
		}
		// Only letters make it longer: so Kerns at its end are left out.
		if own > 0 {
			to = at + 1
		}
		n += own
	}
	return to, n
}

// ends: is there, behind letters that are no part of it, what may stand behind a word?
func ends(l []api.Node, to int) bool {
	for to < len(l) && (lettered(l[to]) || between(l[to])) {
		to++
	}
	if to == len(l) {
		return true
	}
	switch l[to].Kind {
	case api.Skip, api.Penalty, api.Mark, api.Special, api.Ins, api.Adjust, api.Kern:
		return true
	}
	return false
}
