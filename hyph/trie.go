package hyph

import "iter"

const (
	alphabet = 27 // the point, and the letters
	start    = 0  // the state of the empty beginning; no sign leads to it, so a sign that does leads nowhere
	none     = -1 // the number of no pattern
)

// rank: of a sign in the alphabet.
func rank(sign byte) int {
	if sign == point {
		return 0
	}
	return int(sign-'a') + 1
}

// state: of a beginning that patterns have. Its numbers are short, as each sign of each pattern may need a state.
type state struct {
	next [alphabet]int32 // by the sign that stands behind
	ends int32           // the number of the pattern whose signs these are
}

// trie: the patterns' beginnings, by the signs that lead to them.
type trie struct {
	states []state
}

func newTrie() trie { return trie{states: []state{{ends: none}}} }

func (t *trie) size() int { return len(t.states) }

// find: the number of the pattern with these signs, or none.
func (t *trie) find(signs string) int {
	at := int32(start)
	for i := range len(signs) {
		at = t.states[at].next[rank(signs[i])]
		if at == start {
			return none
		}
	}
	return int(t.states[at].ends)
}

// add: a pattern that is not there, with its number.
func (t *trie) add(signs string, number int) {
	at := int32(start)
	for i := range len(signs) {
		at = t.grown(at, rank(signs[i]))
	}
	t.states[at].ends = int32(number)
}

// grown: the state to which a sign leads, by its rank; where it leads nowhere, a new one.
func (t *trie) grown(at int32, sign int) int32 {
	if t.states[at].next[sign] == start {
		t.states[at].next[sign] = int32(len(t.states))
		t.states = append(t.states, state{ends: none})
	}
	return t.states[at].next[sign]
}

// fits: the places of an edged word at which patterns fit, and the numbers of these.
func (t *trie) fits(edged string) iter.Seq2[int, int] {
	return func(yield func(int, int) bool) {
		for place := range len(edged) {
			at := int32(start)
			for i := place; i < len(edged); i++ {
				at = t.states[at].next[rank(edged[i])]
				if at == start {
					break
				}
				if n := t.states[at].ends; n != none && !yield(place, int(n)) {
					return
				}
			}
		}
	}
}
