package words_test

import (
	"slices"

	"galley/api"
	"galley/ligkern"
	"galley/words"
)

// random: numbers, the same ones each time.
type random struct{ state uint64 }

func (r *random) below(n int) int {
	r.state = r.state*6364136223846793005 + 1442695040888963407
	return int(r.state>>33) % n
}

func (r *random) chance(n int) bool { return r.below(n) == 0 }

func (r *random) pick(text string) byte { return text[r.below(len(text))] }

// word: of so many of these letters, at most, but one at least.
func (r *random) word(letters string, most int) []byte {
	var l []byte
	for range 1 + r.below(most) {
		l = append(l, r.pick(letters))
	}
	return l
}

// Letters of random fonts: some that count, one that counts as another, one that counts as none, and the hyphen.
const few = "abcA1-"

// draft: of a font with few steps, that ends.
func (r *random) draft() draft {
	for {
		d := plain(few)
		if r.chance(2) {
			d = d.bounded(int(r.pick(few + "xx")))
		}
		for range r.below(8) {
			x := int(r.pick(few))
			if r.chance(4) {
				x = -1
			}
			d = d.with(x, r.step(d.edge))
		}
		if ligkern.Check(d.font()) == api.OK {
			return d
		}
	}
}

// step: more often such that a ligature takes both marks than not, as it is of no use to a word otherwise.
func (r *random) step(edge int) api.Step {
	next := r.pick(few + "--")
	if edge >= 0 && r.chance(4) {
		next = byte(edge)
	}
	switch {
	case r.chance(3):
		return kern(next, byte(r.below(3)))
	case r.chance(3):
		return lig(next, byte(r.below(12)), r.pick(few))
	}
	return lig(next, byte(4*r.below(2)), r.pick(few))
}

// setup: of one font, or of two.
func (r *random) setup() words.Setup {
	s := setup(r.draft())
	if r.chance(3) {
		s = setup(r.draft(), r.draft())
	}
	s.Left, s.Right, s.Upper = 1+r.below(2), 1+r.below(2), r.chance(2)
	if r.chance(8) {
		s.Hyphen[0] = []int{-1, 'a', 'b', 'z'}[r.below(4)]
	}
	if r.chance(8) {
		s.Lower['-'] = 'b'
	}
	return s
}

// nodes: a word of font f, made with whatever there is, or something like it.
func (r *random) nodes(s words.Setup, f, most int) []api.Node {
	letters := "abc"
	if r.chance(3) {
		letters = few
	}
	for range 20 {
		l, e := words.Make(s, f, r.word(letters, most), r.chance(2), r.chance(2))
		if e != api.OK || len(l) == 0 {
			continue
		}
		if r.chance(6) {
			at := r.below(len(l))
			l = slices.Concat(l[:at], l[at+1:])
		}
		return l
	}
	return nil
}

// row: of words, with this and that between them.
func (r *random) row(s words.Setup) []api.Node {
	var l []api.Node
	for range 1 + r.below(12) {
		switch {
		case r.chance(2):
			l = append(l, r.nodes(s, r.below(len(s.Fonts)), 6)...)
		case r.chance(2):
			l = append(l, api.Node{Kind: api.Skip})
		case r.chance(3):
			l = append(l, api.Node{Kind: []int{api.Special, api.Penalty, api.Mark, api.Rule, api.MathOn, api.MathOff}[r.below(6)]})
		case r.chance(3):
			l = append(l, api.Node{Kind: api.Kern, W: r.below(100), Sub: r.below(3)})
		case r.chance(3):
			l = append(l, api.Node{Kind: api.Char, Font: 2, Char: 'a'})
		default:
			l = append(l, r.opened(s)...)
		}
	}
	return l
}

// opened: an item with contents.
func (r *random) opened(s words.Setup) []api.Node {
	kind := []int{api.HBox, api.VBox, api.Ins, api.Adjust, api.Disc}[r.below(5)]
	l := []api.Node{{Kind: kind}}
	if kind == api.Disc {
		l = append(l, api.Node{Kind: api.Sep}, api.Node{Kind: api.Sep})
		l = append(l, r.nodes(s, 0, 2)...)
	} else {
		l = append(l, api.Node{Kind: api.Skip})
		l = append(l, r.nodes(s, 0, 3)...)
	}
	return append(l, api.Node{Kind: api.End})
}

// places: rising, of a word with so many letters.
func (r *random) places(letters int) []int {
	var at []int
	for p := 1; p < letters; p++ {
		if !r.chance(3) {
			at = append(at, p)
		}
	}
	return at
}
