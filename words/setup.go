package words

import (
	"strings"

	"galley/api"
	"galley/font"
	"galley/ligkern"
)

// Bounds of a setup's numbers.
const (
	mostSize   = 1<<27 - 1
	noHyphen   = -1
	mostHyphen = 255
	mostEdge   = api.MaxWord // of Left and Right
)

// right: may it be?
func (s *Setup) right() bool {
	n := len(s.Fonts)
	if n > api.MaxFonts || len(s.Sizes) != n || len(s.Hyphen) != n || !edge(s.Left) || !edge(s.Right) {
		return false
	}
	for f := range n {
		if s.Sizes[f] < 1 || s.Sizes[f] > mostSize || s.Hyphen[f] < noHyphen || s.Hyphen[f] > mostHyphen {
			return false
		}
	}
	for _, f := range s.Fonts {
		if ligkern.Check(f) != api.OK {
			return false
		}
	}
	return true
}

func edge(n int) bool { return n >= 1 && n <= mostEdge }

// has: is it a font of the setup?
func (s *Setup) has(f int) bool { return f >= 0 && f < len(s.Fonts) }

// hyphen: of a font of the setup.
func (s *Setup) hyphen(f int) (byte, bool) {
	if s.Hyphen[f] == noHyphen {
		return 0, false
	}
	c := byte(s.Hyphen[f])
	_, found := font.Metric(s.Fonts[f], c)
	return c, found
}

// counts: the letter as which one counts; false, if it counts as none.
func (s *Setup) counts(letter rune) (byte, bool) {
	c := s.Lower[letter]
	return c, c >= 'a' && c <= 'z'
}

// lettered: has a node letters?
func lettered(n api.Node) bool { return n.Kind == api.Char || n.Kind == api.Lig }

// between: may a node stand between a word's letters, though it has none?
func between(n api.Node) bool { return n.Kind == api.Kern && n.Sub == 0 }

// letters: of a node, as runes of the bytes' numbers: so a byte above 127 is one letter, too.
func letters(n api.Node) string {
	switch n.Kind {
	case api.Char:
		return string(rune(n.Char))
	case api.Lig:
		var text strings.Builder
		for _, c := range []byte(n.Text) {
			text.WriteRune(rune(c))
		}
		return text.String()
	}
	return ""
}

// wordly: may a node stand in a word of a font?
func (s *Setup) wordly(n api.Node, f int) bool {
	if !lettered(n) || n.Font != f {
		return between(n)
	}
	for _, letter := range letters(n) {
		if _, counts := s.counts(letter); !counts {
			return false
		}
	}
	return true
}
