package words_test

import (
	"slices"
	"strings"
	"testing"

	"galley/api"
	"galley/hyph"
	"galley/words"
)

func TestP86Examples(t *testing.T) {
	s := setup(example())
	h := patterns(t, "1a")
	hyphenates(t, s, h, "_\x0c[fi]la_", "_\x0c[fi]l{-||}a_")
	hyphenates(t, s, h, "_lala", "_l{-||}al{-||}a")
	hyphenates(t, s, h, "_la(62/1)_fila!_ll_la#", "_l{-||}a(62/1)_fila!_ll_l{-||}a#")
	hyphenates(t, s, patterns(t, "1i"), "_la\x0c[fi]_", "_la{f-|i|\x0c[fi]}_")
	hyphenates(t, s, patterns(t, "hy3ph", "he2n", "hena4", "hen5at", "1na", "n2at", "1tio", "2io", "o2n"), "_hyphenation_", "_hy{-||}phen{-||}ation_")
}

// A word is all of it that Find finds, and only where it finds it.
func TestP86Words(t *testing.T) {
	s := setup(example(), plain("-al"))
	h := patterns(t, "1a")
	hyphenates(t, s, h, "", "")
	hyphenates(t, s, h, "lala_", "lala_")
	hyphenates(t, s, h, ":_lala_}", ":_lala_}")
	hyphenates(t, s, h, "_-1lala-lala_la", "_-1l{-||}al{-||}a-lala_l{-||}a")
	hyphenates(t, s, h, "_'l'a_la_'-la", "_'l{'-||}'a_l{-||}a_'-l{-||}a")
	hyphenates(t, s, h, "_la%_la", "_la%_l{-||}a")
	hyphenates(t, s, h, "_la{-||}la_la", "_la{-||}la_l{-||}a")
	hyphenates(t, s, h, "_l_a_l-a_la", "_l_a_l-a_l{-||}a")
	// Hyphenated once more: a word that has a Disc already is none.
	hyphenates(t, s, h, "_l{-||}a_la", "_l{-||}a_l{-||}a")
}

// Letters as they count: capital ones are small ones' likes.
func TestP86Lower(t *testing.T) {
	s := setup(example())
	h := patterns(t, "l1a", "*fil", "fi-la")
	hyphenates(t, s, h, "_LALa_FILA_lAla", "_L{-||}AL{-||}a_FI{-||}LA_l{-||}Al{-||}a")
	s.Upper = false
	hyphenates(t, s, h, "_LALa_FILA_lAla", "_LALa_FILA_l{-||}Al{-||}a")
	s.Lower['x'] = 'l'
	hyphenates(t, s, h, "_lalxa", "_l{-||}alx{-||}a")
	hyphenates(t, s, h, "_xalxa", "_xalxa")
}

// Left and Right letters stay at the ends.
func TestP86Edges(t *testing.T) {
	s := setup(example())
	h := patterns(t, "1l")
	for _, w := range []struct {
		left, right int
		want        string
	}{
		{1, 1, "_l{-||}l{-||}l{-||}l{-||}l"}, {2, 1, "_ll{-||}l{-||}l{-||}l"}, {1, 2, "_l{-||}l{-||}l{-||}ll"}, {2, 3, "_ll{-||}lll"}, {4, 1, "_llll{-||}l"},
		{1, 4, "_l{-||}llll"}, {3, 3, "_lllll"}, {63, 1, "_lllll"}, {1, 63, "_lllll"},
	} {
		s.Left, s.Right = w.left, w.right
		hyphenates(t, s, h, "_lllll", w.want)
	}
	// An exception's hyphens, too.
	s.Left, s.Right = 2, 2
	hyphenates(t, s, patterns(t, "l-a-l-a-l"), "_lalal", "_la{-||}l{-||}al")
}

// Where Break answers ErrNone the word stays.
func TestP86Stays(t *testing.T) {
	s := setup(example())
	h := patterns(t, "1l")
	hyphenates(t, s, h, "_fil_lal_a(1)vl_lil", "_fil_la{-||}l_a(1)vl_li{-||}l")
	hyphenates(t, s, h, "_f\x0c[fi]l_f[fi]l_lil", "_f\x0c[fi]{-||}l_f[fi]l_li{-||}l")
	// One that is cut off at 63 letters, amid a ligature, is not made.
	hyphenates(t, s, h, "_"+strings.Repeat("l", 62)+"\x0c[fi]_", "_"+strings.Repeat("l{-||}", 61)+"l\x0c[fi]_")
	// Behind a word kerns are left out, so that it may be none that is made.
	s = setup(plain("-al").bounded('e').with('l', kern('e', 0)))
	hyphenates(t, s, h, "_all(62)_al(62)_all", "_a{-||}l{-||}l(62)_a{-||}l(62)_a{-||}l{-||}l")
	s = setup(plain("-alx").bounded('e').with('l', lig('e', 2, 'x')))
	hyphenates(t, s, h, "_al_all", "_a{-||}l_a{-||}l{-||}l")
}

func TestP86Hyph(t *testing.T) {
	s := setup(example())
	h := patterns(t, "1l")
	c := *h
	for _, h := range []*hyph.Hyph{nil, {}, new(hyph.Hyph), &c} {
		for _, text := range []string{"", "lala", "_lala_", "_l_"} {
			for _, s := range []words.Setup{s, many(0)} {
				l, e := words.Hyphenate(row(s, text), s, h)
				isnt(t, "no Hyph: "+text, l, e, api.ErrArg)
			}
		}
		l, e := words.Hyphenate(slices.Repeat([]api.Node{{Kind: api.Skip}}, 2000), s, h)
		isnt(t, "no Hyph", l, e, api.ErrArg)
	}
	hyphenates(t, s, hyph.New(), "_lala_", "_lala_")
}

func TestP86Size(t *testing.T) {
	s := setup(example())
	h := patterns(t, "1a")
	fill := func(n int) string { return strings.Repeat("_", n) }
	hyphenates(t, s, h, strings.Repeat("_la", 250), strings.Repeat("_l{-||}a", 250))
	hyphenates(t, s, h, strings.Repeat("_la", 249)+fill(8), strings.Repeat("_l{-||}a", 249)+fill(8))
	hyphenates(t, s, h, fill(8)+strings.Repeat("_la", 249), fill(8)+strings.Repeat("_l{-||}a", 249))
	hyphenates(t, s, h, fill(2000), fill(2000))
	hyphenates(t, s, h, fill(1992)+"_la", fill(1992)+"_l{-||}a")
	hyphenates(t, s, patterns(t, "1v"), strings.Repeat("_la", 666)+"__", strings.Repeat("_la", 666)+"__")
	for _, text := range []string{
		strings.Repeat("_la", 250) + "_", "_" + strings.Repeat("_la", 250), strings.Repeat("_la", 666), fill(1993) + "_la", fill(1997) + "_la", "_la" + fill(1993), "_la" + fill(1997),
		// One word alone would be too much.
		"_la_" + strings.Repeat("a", 63) + fill(1695) + "_la",
	} {
		l, e := words.Hyphenate(row(s, text), s, h)
		isnt(t, "Hyphenate of much", l, e, api.ErrSize)
	}
}

// The longest answers, of words of a letter that may be broken anywhere.
func TestP86Long(t *testing.T) {
	s := setup(example())
	h := patterns(t, "1a")
	word := strings.Repeat("a", 63)
	broken := strings.Repeat("a{-||}", 62) + "a"
	hyphenates(t, s, h, "_"+word+"a", "_"+broken+"a")
	hyphenates(t, s, h, strings.Repeat("_"+word, 5), strings.Repeat("_"+broken, 5))
	l, e := words.Hyphenate(row(s, strings.Repeat("_"+word, 6)), s, h)
	isnt(t, "six words", l, e, api.ErrSize)
	// Words of one node each, of as many letters as may be.
	s = setup(plain("-a").with('a', lig('a', 0, 'a')))
	one := "a[" + word + "]"
	part := func(n int) string { return strings.Replace("a["+word[:n]+"]", "a[a]", "a", 1) }
	disc := "{" + part(1) + "-|" + part(62) + "|" + one + "}"
	hyphenates(t, s, h, strings.Repeat("_"+one, 222)+"_", strings.Repeat("_"+disc, 222)+"_")
	s.Left = 61
	disc = "{" + part(61) + "-|" + part(2) + "|" + one + "}"
	hyphenates(t, s, h, "_"+one+"_", "_"+disc+"_")
}

func TestP86Random(t *testing.T) {
	r := &random{86}
	broken := 0
	for range 3000 {
		s := r.setup()
		h := r.hyph()
		l := append([]api.Node{{Kind: api.Skip}}, r.row(s)...)
		b, e := words.Hyphenate(l, s, h)
		want, e2 := plainHyphenate(l, s, h)
		if !slices.Equal(b, want) || e != e2 {
			t.Errorf("Hyphenate of %s: %s, %d; want %s, %d", told(s, l), told(s, b), e, told(s, want), e2)
		}
		if len(b) > len(l) {
			broken++
		}
	}
	if broken < 500 {
		t.Errorf("only %d rows were broken", broken)
	}
}

// hyph: of patterns of the letters of random words.
func (r *random) hyph() *hyph.Hyph {
	h := hyph.New()
	for range 1 + r.below(5) {
		h.Pattern("1" + string(r.word("abc", 2)))
		h.Pattern(string(r.word("abc", 1)) + "2" + string(r.word("abc", 1)))
	}
	if r.chance(4) {
		h.Except(string(r.word("abc", 2)) + "-" + string(r.word("abc", 2)))
	}
	return h
}
