package words_test

import (
	"slices"
	"strings"
	"testing"

	"galley/api"
	"galley/words"
)

func TestP83Examples(t *testing.T) {
	s := setup(example())
	finds(t, s, "_<fila>_")
	finds(t, s, "_<\x0c[fi]la>_")
	finds(t, s, "_<fil>_<la>_")
	finds(t, s, "")
	finds(t, s, "_")
	finds(t, s, "___")
	finds(t, s, "fila_")
	finds(t, s, "fila")
	finds(t, s, "fila_<fila>")
}

// Only behind a Skip of the list's own is there a word, and only one.
func TestP83Skips(t *testing.T) {
	s := setup(example())
	for _, text := range []string{":_fila_}", ";_fila_}", "~_fila_}", "^_fila_}", ":::_fila_}_}_}", "{_|fila}"} {
		if text[0] == '{' {
			text = "{f-|il|\x0c[fi]l}"
		}
		finds(t, s, text)
		finds(t, s, text+"la_")
		finds(t, s, "_"+text+"la_")
		finds(t, s, "_<la>_"+text+"_<la>#")
		finds(t, s, text+"_<la>_")
	}
	finds(t, s, "_<la>(1/1)la_")
	finds(t, s, "_<la>#la_")
	finds(t, s, "_<la>!la")
	finds(t, s, "_la:_la_}_<la>")
}

// What may stand between a Skip and its word.
func TestP83Ahead(t *testing.T) {
	s := setup(example(), example())
	for _, text := range []string{"!", "!!", "(0)", "(7)", "-", "--", "1", "1[11]", "1[1a]", "'-", "\"-", "\"1[1a]", "!(3)-!(3)'1!"} {
		finds(t, s, "_"+text+"<la>_")
	}
	for _, text := range []string{"(0/1)", "(0/2)", "%", ":}", ";}", "#", "{||}", "@", "~}", "$", "&", "^}"} {
		finds(t, s, "_"+text+"la_")
		finds(t, s, "_!"+text+"la_")
		finds(t, s, "_(3)-"+text+"la_")
	}
	finds(t, s, "_-")
	finds(t, s, "_!")
	finds(t, s, "_(1)")
	finds(t, s, "_-_!_(1)_<la>")
}

// A word's font is one of the setup, with a hyphen.
func TestP83Fonts(t *testing.T) {
	s := setup(example(), example())
	finds(t, s, "_<la>_")
	finds(t, s, "_<'l'a>_")
	finds(t, s, "_\"l\"a_")
	finds(t, s, "_\"-<la>_")
	finds(t, s, "_\"lla_")
	s.Hyphen[1] = -1
	finds(t, s, "_<la>_'l'a_")
	finds(t, s, "_'l'a_<la>_")
	finds(t, s, "_'la_")
	finds(t, s, "_'-<la>_")
	s.Hyphen[1] = 0
	finds(t, s, "_'l'a_<la>_")
	s.Hyphen[1] = 255
	finds(t, s, "_'l'a_<la>_")
	s.Hyphen[1] = 'z'
	finds(t, s, "_<'l'a>_<la>_")
	s.Fonts[1] = withChars("la")
	finds(t, s, "_'l'a_<la>_")
	s = many(0)
	finds(t, s, "_la_")
}

// A great first letter.
func TestP83Upper(t *testing.T) {
	s := setup(example())
	finds(t, s, "_<La>_<LA>_<lA>_<la>_")
	finds(t, s, "_<L[La]a>_")
	s.Upper = false
	finds(t, s, "_La_LA_<lA>_<la>_")
	finds(t, s, "_L[La]a_l[La]a_<l[lA]a>_")
	finds(t, s, "_-La_-<lA>_")
	finds(t, s, "_Lla_")
	// A letter that counts as another one, and one that no font has.
	s.Lower['l'], s.Lower['1'], s.Lower['Q'] = 'a', 'l', 'Q'
	finds(t, s, "_la_1a_<al>_Q<al>_")
	s.Upper = true
	finds(t, s, "_<la>_<1a>_<al>_Q<al>_")
}

// Lower may count bytes as whatever it likes: only what is a letter from a to z counts.
func TestP83Lower(t *testing.T) {
	s := setup(plain("\x01-\xc3\xe9"))
	finds(t, s, "_\x01\xc3\xe9_")
	s.Lower[1], s.Lower[0xc3], s.Lower[0xe9] = 'a', 'z', 'm'
	finds(t, s, "_<\x01\xc3\xe9>_")
	finds(t, s, "_<\x01[\x01\xc3]\xe9>_")
	finds(t, s, "_<\x01[\xe9\xc3]\xe9>_")
	for _, c := range []byte{0, 1, 'A', 'Z', '`', '{', 'a' + 128, 255} {
		s.Lower[0xc3] = c
		finds(t, s, "_\xc3<\x01\xe9>_")
		finds(t, s, "_<\x01\xe9>\xc3\xe9_")
		finds(t, s, "_\x01[\x01\xc3]\xe9_")
		finds(t, s, "_\x01[\xc3\x01]<\x01\xe9>_")
		finds(t, s, "_<\x01\xe9>\x01[\x01\xc3]_")
	}
	s.Lower = [256]byte{}
	finds(t, s, "_la_")
}

// Where a word's nodes end.
func TestP83Nodes(t *testing.T) {
	s := setup(example(), example())
	finds(t, s, "_<la>-_")
	finds(t, s, "_<la>-la_")
	finds(t, s, "_<la>'l_")
	finds(t, s, "_<la>\"l_")
	finds(t, s, "_<'l'a>l_")
	finds(t, s, "_<la>l[l-]_")
	finds(t, s, "_<l(5)a>_")
	finds(t, s, "_<l(5)(6)a>(7)(8)_")
	finds(t, s, "_<la>(7)-(8)la_")
	finds(t, s, "_<l[la]>(7)_")
	finds(t, s, "_l[l-]a_")
	finds(t, s, "_l[l-]la_")
}

// What may stand behind a word.
func TestP83Behind(t *testing.T) {
	s := setup(example(), example())
	for _, text := range []string{"", "_", "#", "@", "!", "~}", "^}", "(1/1)", "(0/2)", "~_}"} {
		for _, between := range []string{"", "-", "(3)", "1[11]", "(3)-'a", "\"a"} {
			finds(t, s, "_<la>"+between+text)
			if text != "" && text[0] != '_' {
				finds(t, s, "_<la>"+between+text+"la")
			}
		}
	}
	for _, text := range []string{"%", ":}", ";}", "{||}", "{-||}", "$", "&"} {
		for _, between := range []string{"", "-", "(3)", "1[11]", "(3)-'a", "\"a"} {
			finds(t, s, "_la"+between+text)
			finds(t, s, "_la"+between+text+"_<la>_")
		}
	}
}

// At least Left and Right letters together.
func TestP83Least(t *testing.T) {
	s := setup(example())
	s.Left, s.Right = 2, 3
	finds(t, s, "_lala_la_l_")
	finds(t, s, "_<lalal>_<lalala>_lala")
	finds(t, s, "_<l[lalal]>_l[lala]_")
	finds(t, s, "_lala-lala_")
	finds(t, s, "_l(1)a(1)l(1)a(1)_")
	s.Left, s.Right = 63, 1
	finds(t, s, "_"+strings.Repeat("l", 100)+"_")
	s.Left, s.Right = 1, 62
	finds(t, s, "_<"+strings.Repeat("l", 63)+">l_")
	finds(t, s, "_"+strings.Repeat("l", 62)+"_")
	s.Left, s.Right = 1, 1
	finds(t, s, "_l_<la>_")
}

// At most MaxWord letters: what is behind them is passed.
func TestP83Most(t *testing.T) {
	s := setup(example())
	l := strings.Repeat("l", 62)
	finds(t, s, "_<"+l+">_")
	finds(t, s, "_<"+l+"a>_")
	finds(t, s, "_<"+l+"a>a_")
	finds(t, s, "_<"+l+"a>alalala(3)lalala_")
	finds(t, s, "_<"+l+"a>(3)a_")
	finds(t, s, "_<"+l+">l[la]_")
	finds(t, s, "_<"+l+">l[la]la_")
	finds(t, s, "_<"+l+">(3)l[la]la_")
	finds(t, s, "_<l["+l+"]a>(3)_")
	finds(t, s, "_<l["+l+"a]>_")
	finds(t, s, "_<l["+l+"a]>al[la]_")
	finds(t, s, "_<l["+l+"a]>l["+l+"a]_")
	finds(t, s, "_"+l+"aa%_<la>")
	finds(t, s, "_<"+l+"a>"+strings.Repeat("l", 1900)+"_")
}

func TestP83Random(t *testing.T) {
	r := &random{83}
	found := 0
	for range 4000 {
		s := r.setup()
		l := append([]api.Node{{Kind: api.Skip}}, r.row(s)...)
		from, to, e := words.Find(l, s)
		from2, to2, e2 := plainFind(l, s)
		if !slices.Equal(from, from2) || !slices.Equal(to, to2) || e != e2 {
			t.Errorf("Find of %s: %v, %v, %d; want %v, %v, %d", told(s, l), from, to, e, from2, to2, e2)
		}
		found += len(from)
	}
	if found < 2000 {
		t.Errorf("only %d words", found)
	}
}
