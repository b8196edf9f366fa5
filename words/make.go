package words

import (
	"galley/api"
	"galley/font"
	"galley/ligkern"
)

// madeOf: nodes of letters, of a font of a setup that is right.
func (s *Setup) madeOf(f int, word []byte, left, right bool) ([]api.Node, api.Errno) {
	pieces, e := ligkern.Run(s.Fonts[f], word, left, right)
	if e != api.OK {
		return nil, e
	}
	if !spelt(pieces) {
		return nil, api.ErrChar
	}
	l := make([]api.Node, len(pieces))
	at := 0
	for i, p := range pieces {
		l[i] = s.node(f, p, word[at:at+p.N])
		if !dimensions(l[i]) {
			return nil, api.ErrRange
		}
		at += p.N
	}
	return l, api.OK
}

// spelt: does each ligature stand for as many letters as a node may have?
func spelt(pieces []api.Piece) bool {
	for _, p := range pieces {
		if p.Kind == api.Lig && (p.N == 0 || p.N > api.MaxWord) {
			return false
		}
	}
	return true
}

// node: of a piece that stands for letters. Of a font and a size that are right no number is refused.
func (s *Setup) node(f int, p api.Piece, letters []byte) api.Node {
	if p.Kind == api.Kern {
		return api.Node{Kind: api.Kern, W: s.size(f, p.Size)}
	}
	m, _ := font.Metric(s.Fonts[f], p.Char)
	n := api.Node{Kind: p.Kind, Font: f, Char: p.Char, W: s.size(f, m.W), H: s.size(f, m.H), D: s.size(f, m.D)}
	if p.Kind == api.Lig {
		n.Text = string(letters)
	}
	return n
}

func (s *Setup) size(f, x int) int {
	n, _ := font.Size(s.Sizes[f], x)
	return n
}

// dimensions: are a node's measures such?
func dimensions(n api.Node) bool {
	for _, x := range [3]int{n.W, n.H, n.D} {
		if x < -api.MaxDimen || x > api.MaxDimen {
			return false
		}
	}
	return true
}
