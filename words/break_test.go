package words_test

import (
	"math"
	"slices"
	"strings"
	"testing"

	"galley/api"
	"galley/words"
)

func TestP85Examples(t *testing.T) {
	s := setup(example())
	breaks(t, s, "ala", []int{1}, "a{-||}la")
	breaks(t, s, "ala", []int{2}, "al{-||}a")
	breaks(t, s, "ala", []int{1, 2}, "a{-||}l{-||}a")
	breaks(t, s, "a\x0c[fi]a", []int{2}, "a{f-|i|\x0c[fi]}a")
	breaks(t, s, "a\x0c[fi]a", []int{1, 2, 3}, "a{-||}{f-|i|\x0c[fi]}{-||}a")
	breaks(t, s, "\x0c[fi]", []int{1}, "{f-|i|\x0c[fi]}")
}

// Kerns within the word, ahead of the hyphen, and behind Left: what is the same at a break stays out of the cut.
func TestP85Kerns(t *testing.T) {
	font := func(hyphen, left int) words.Setup {
		d := plain("-alv").with('a', kern('v', 0))
		if hyphen >= 0 {
			d.with('a', kern('-', byte(hyphen)))
		}
		if left >= 0 {
			d.with(-1, kern('v', byte(left)))
		}
		return setup(d)
	}
	at := []int{1}
	breaks(t, font(-1, -1), "a(62)va", at, "a{-||(62)}va")
	breaks(t, font(1, -1), "a(62)va", at, "a{(125)-||(62)}va")
	breaks(t, font(1, -1), "ala", at, "a{(125)-||}la")
	breaks(t, font(0, -1), "a(62)va", at, "a(62){-||}va")
	breaks(t, font(-1, 1), "a(62)va", at, "a{-|(125)|(62)}va")
	breaks(t, font(-1, 1), "lva", at, "l{-|(125)|}va")
	breaks(t, font(-1, 0), "a(62)va", at, "a{-||}(62)va")
	breaks(t, font(0, 0), "a(62)va", at, "a(62){-|(62)|}va")
	breaks(t, font(1, 2), "a(62)va", at, "a{(125)-|(187)|(62)}va")
	breaks(t, font(1, 2), "la(62)vl", []int{1, 2, 3}, "l{-||}a{(125)-|(187)|(62)}v{-||}l")
}

// A letter joins the hyphen behind it.
func TestP85Across(t *testing.T) {
	for op, want := range map[byte]string{0: "b{z[a-]||a}l", 1: "b{z[a]-||a}l", 2: "ba{z[-]||}l", 4: "b{z[a-]||a}l", 5: "b{z[a]-||a}l", 6: "ba{z[-]||}l"} {
		breaks(t, setup(plain("-ablz").with('a', lig('-', op, 'z'))), "bal", []int{2}, want)
	}
	// Two letters and the hyphen become one.
	s := setup(plain("-ablyz").with('b', lig('a', 0, 'y')).with('y', lig('-', 0, 'z')))
	breaks(t, s, "ly[ba]l", []int{3}, "l{z[ba-]||y[ba]}l")
	breaks(t, s, "ly[ba]l", []int{2}, "l{b-|a|y[ba]}l")
	breaks(t, s, "ly[ba]l", []int{1, 2, 3}, "l{-||}{b-|a|y[ba]}l")
	breaks(t, s, "ly[ba]l", []int{1, 3}, "l{-||}{z[ba-]||y[ba]}l")
	// So much so that they are what stands in the word anyway, if a hyphen counts as a letter.
	s = setup(plain("-bz").with('b', lig('-', 0, 'z')))
	s.Lower['-'] = 'h'
	breaks(t, s, "z[b-]b", []int{1}, "{z[b-]|-|z[b-]}b")
	breaks(t, s, "z[b-]b", []int{2}, "z[b-]{-||}b")
	breaks(t, s, "z[b-]b", []int{1, 2}, "{z[b-]|-|z[b-]}{-||}b")
}

// A letter behind a break joins Left, which is there at each one.
func TestP85Behind(t *testing.T) {
	s := setup(plain("-ablyz").with(-1, lig('a', 0, 'z'), lig('y', 0, 'b')).with('b', lig('a', 0, 'y')))
	breaks(t, s, "lal", []int{1}, "l{-|z[a]|a}l")
	breaks(t, s, "ly[ba]l", []int{2}, "l{b-|z[a]|y[ba]}l")
	breaks(t, s, "ly[ba]l", []int{1, 2, 3}, "l{-||}{b-|z[a]|y[ba]}{-||}l")
	// What it becomes may join more letters.
	s = setup(plain("-ablyz").with(-1, lig('a', 0, 'z')).with('z', lig('l', 0, 'y')))
	breaks(t, s, "lallb", []int{1, 2, 3, 4}, "l{-|y[al]|al}{-||}l{-||}b")
	breaks(t, s, "lallb", []int{2, 3, 4}, "la{-||}l{-||}l{-||}b")
}

// Cuts that meet: the one that comes later is left out, also where it begins only because of what the hyphen changes.
func TestP85Meet(t *testing.T) {
	three := plain("-afimn\x0c").with('f', lig('f', 0, 'm'), lig('i', 0, 12)).with('m', lig('i', 0, 'n'))
	s := setup(three)
	breaks(t, s, "an[ffi]a", []int{2}, "a{f-|\x0c[fi]|n[ffi]}a")
	breaks(t, s, "an[ffi]a", []int{3}, "a{m[ff]-|i|n[ffi]}a")
	breaks(t, s, "an[ffi]a", []int{2, 3}, "a{f-|\x0c[fi]|n[ffi]}a")
	breaks(t, s, "an[ffi]a", []int{1, 2, 3, 4}, "a{-||}{f-|\x0c[fi]|n[ffi]}{-||}a")
	breaks(t, s, "an[ffi]a", []int{1, 3, 4}, "a{-||}{m[ff]-|i|n[ffi]}{-||}a")
	breaks(t, s, "n[ffi]n[ffi]", []int{1, 2, 3, 4, 5}, "{f-|\x0c[fi]|n[ffi]}{-||}{f-|\x0c[fi]|n[ffi]}")
	breaks(t, s, "n[ffi]n[ffi]", []int{2, 4}, "{m[ff]-|i|n[ffi]}{f-|\x0c[fi]|n[ffi]}")
	s = setup(plain("-abcwz").with(-1, lig('b', 0, 'w')).with('b', lig('-', 1, 'z')))
	breaks(t, s, "abc", []int{1}, "a{-|w[b]|b}c")
	breaks(t, s, "abc", []int{2}, "a{z[b]-||b}c")
	breaks(t, s, "abc", []int{1, 2}, "a{-|w[b]|b}c")
	breaks(t, s, "abbc", []int{1, 2, 3}, "a{-|w[b]|b}{z[b]-||b}c")
	breaks(t, s, "abbbc", []int{1, 2, 3, 4}, "a{-|w[b]|b}{z[b]-|w[b]|bb}c")
}

// A place is left out where something ahead of it, or behind it, can't be made; the others stay.
func TestP85LeftOut(t *testing.T) {
	s := setup(plain("-alz").with('a', lig('-', 3, 'z')))
	breaks(t, s, "lala", []int{1, 2, 3}, "l{-||}al{-||}a")
	breaks(t, s, "la", []int{1}, "l{-||}a")
	breaks(t, s, "al", []int{1}, "al")
	s = setup(plain("-alz").with(-1, lig('a', 1, 'z')))
	breaks(t, s, "lala", []int{1, 2, 3}, "la{-||}la")
	breaks(t, s, "la", []int{1}, "la")
	// An answer that is left out has no cut.
	s = setup(plain("-abz").with(-1, lig('a', 1, 'z'), lig('b', 0, 'a')).with('b', lig('-', 1, 'a')))
	breaks(t, s, "babb", []int{1, 2, 3}, "ba{-|a[b]|b}b")
	// The hyphen is too wide, or what is made of the letters is.
	s = setup(plain("-alz").with('a', lig('-', 1, 'z')))
	s.Sizes[0] = 1<<27 - 1
	s.Fonts[0].Chars['z'-s.Fonts[0].First].W = 1<<24 - 1
	breaks(t, s, "lala", []int{1, 2, 3}, "l{-||}al{-||}a")
	s.Fonts[0].Chars['-'-s.Fonts[0].First].D = -1<<24 + 1
	breaks(t, s, "lala", []int{1, 2, 3}, "lala")
	// A ligature of 64 letters, with the hyphen.
	s = setup(plain("-a").with('a', lig('a', 0, 'a'), lig('-', 0, 'a')))
	all := strings.Repeat("a", 63)
	breaks(t, s, "a["+all+"]", []int{62}, "{a["+all[:62]+"-]|a|a["+all+"]}")
	s = setup(plain("-abc").with('a', lig('a', 0, 'a'), lig('-', 0, 'a')).with('c', lig('b', 1, 'a')))
	breaks(t, s, "a["+all+"]b", []int{63}, "a["+all+"]b")
}

// With what a word is made: what is ahead of a place has Left only if the word has it, what is behind it Right.
func TestP85Made(t *testing.T) {
	d := plain("-abxy").bounded('e').with(-1, lig('a', 0, 'x')).with('a', lig('e', 0, 'y')).with('-', kern('e', 0))
	s := setup(d)
	all := []int{1, 2}
	breaks(t, s, "aba", all, "a{-||}b{-|x[a]|a}")
	breaks(t, s, "x[a]ba", all, "x[a]{-||}b{-|x[a]|a}")
	breaks(t, s, "aby[a]", all, "a{-||}b{-|x[a]|y[a]}")
	breaks(t, s, "x[a]by[a]", all, "x[a]{-||}b{-|x[a]|y[a]}")
	breaks(t, s, "abba", []int{2}, "ab{-||}ba")
	breaks(t, s, "abby[a]", []int{2}, "ab{-||}by[a]")
	for _, text := range []string{"aby[b]", "x[b]ba", "x[a]bx[a]", "y[a]ba", "aba(62)", "ab(1)a", "x[a]bY[a]"} {
		breaksNone(t, s, text, all, api.ErrNone)
		breaksNone(t, s, text, nil, api.ErrNone)
		breaksNone(t, s, text, []int{0}, api.ErrRange)
	}
	// A kern is what the program puts there, be it at the end.
	s = setup(plain("-ab").bounded('e').with('b', kern('e', 2), kern('a', 1)))
	breaks(t, s, "ab(125)ab(187)", []int{1, 2, 3}, "a{-||}b{-||(125)}a{-||}b(187)")
	breaks(t, s, "ab(125)ab", []int{3}, "ab(125)a{-||}b")
	breaksNone(t, s, "abab(187)", all, api.ErrNone)
	breaksNone(t, s, "ab(125)ab(187)(0)", all, api.ErrNone)
}

// Of several ways to make a word it is the first one.
func TestP85MadeFirst(t *testing.T) {
	font := func(c byte) words.Setup {
		d := plain("-abcmq").bounded('e').with(-1, lig('a', 0, 'c')).with('a', lig('b', 0, 'm'))
		return setup(d.with('m', lig('e', 0, 'q')).with('c', lig('b', 0, c)).with('b', kern('e', 1)))
	}
	// With nothing and with left it is m, with right and with both q.
	breaks(t, font('m'), "m[ab]", []int{1}, "{a-|b|m[ab]}")
	breaks(t, font('m'), "q[ab]", []int{1}, "{a-|b(125)|q[ab]}")
	// With left, with right and with both it is q.
	breaks(t, font('q'), "m[ab]", []int{1}, "{a-|b|m[ab]}")
	breaks(t, font('q'), "q[ab]", []int{1}, "{c[a]-|b|q[ab]}")
	// With both alone it is so.
	s := setup(plain("-abxy").bounded('e').with(-1, lig('a', 0, 'x')).with('b', lig('e', 0, 'y')).with('x', lig('-', 1, 'b')))
	breaks(t, s, "x[a]y[b]", []int{1}, "{b[a]-||x[a]}y[b]")
	breaks(t, s, "ay[b]", []int{1}, "a{-||}y[b]")
	breaks(t, s, "x[a]b", []int{1}, "{b[a]-||x[a]}b")
}

// The word must be just what is made: in each field.
func TestP85JustSo(t *testing.T) {
	s := setup(example(), example())
	text := "a(62)v\x0c[fi]a"
	breaks(t, s, text, []int{1}, "a{-||(62)}v\x0c[fi]a")
	breaks(t, s, "'a(62)'v'\x0c[fi]'a", []int{1}, "'a{'-||(62)}'v'\x0c[fi]'a")
	for i, change := range []func(l []api.Node){
		func(l []api.Node) { l[0].W++ },
		func(l []api.Node) { l[0].H-- },
		func(l []api.Node) { l[2].D++ },
		func(l []api.Node) { l[1].W++ },
		func(l []api.Node) { l[3].W++ },
		func(l []api.Node) { l[3].H++ },
		func(l []api.Node) { l[3].D++ },
		func(l []api.Node) { l[3].Char = 13 },
		func(l []api.Node) { l[3].Text = "fj" },
		func(l []api.Node) { l[3].Text = "f" },
		func(l []api.Node) { l[3].Text = "fia" },
		func(l []api.Node) { l[4].Char = 'b' },
	} {
		l := row(s, text)
		change(l)
		b, e := words.Break(l, s, []int{1})
		isnt(t, "changed "+string(rune('a'+i)), b, e, api.ErrNone)
	}
	s.Sizes[0]++
	breaks(t, s, text, []int{3}, "a(62)v{f-|i|\x0c[fi]}a")
}

func TestP85Places(t *testing.T) {
	s := setup(example())
	for _, at := range [][]int{
		{0}, {-1}, {4}, {5}, {math.MaxInt}, {math.MinInt}, {1 << 32}, {1<<32 + 1}, {2, 1}, {1, 1}, {2, 2}, {1, 2, 2}, {1, 3, 2}, {0, 1}, {-1, 1}, {1, 4}, {1, 2, 3, 4}, {3, 4}, {1, -1}, {1, 0}, {4, 1},
	} {
		breaksNone(t, s, "lala", at, api.ErrRange)
		breaksNone(t, s, "lxva", at, api.ErrRange)
		breaksNone(t, s, "a(1)vla", at, api.ErrRange)
		breaksNone(t, changed(func(s *words.Setup) { s.Hyphen[0] = -1 }), "lala", at, api.ErrRange)
	}
	breaksNone(t, s, "l", []int{1}, api.ErrRange)
	breaksNone(t, s, "l", []int{0}, api.ErrRange)
	breaks(t, s, "lala", []int{1, 2, 3}, "l{-||}a{-||}l{-||}a")
	breaks(t, s, "lala", []int{1, 3}, "l{-||}al{-||}a")
	breaks(t, s, "lala", []int{3}, "lal{-||}a")
	breaks(t, s, "lala", nil, "lala")
	breaks(t, s, "l", nil, "l")
	// Left and Right have no part, nor has Upper.
	s.Left, s.Right, s.Upper = 63, 63, false
	breaks(t, s, "Lala", []int{1, 2, 3}, "L{-||}a{-||}l{-||}a")
}

func TestP85Hyphens(t *testing.T) {
	s := setup(example())
	for _, c := range []int{-1, 0, 255, '1'} {
		s.Hyphen[0] = c
		breaksNone(t, s, "lala", []int{1}, api.ErrNone)
		breaksNone(t, s, "lala", nil, api.ErrNone)
		breaksNone(t, s, "lala", []int{0}, api.ErrRange)
	}
	s.Hyphen[0] = 'x'
	breaks(t, s, "lala", []int{1}, "l{x||}ala")
	s.Hyphen[0] = 'v'
	breaks(t, s, "lala", []int{1, 2}, "l{v||}a{(62)v||}la")
	s = setup(plain("\x00a\xff"))
	s.Hyphen[0] = 0
	breaks(t, s, "aa", []int{1}, "a{\x00||}a")
	s.Hyphen[0] = 255
	breaks(t, s, "aa", []int{1}, "a{\xff||}a")
}

// Bytes above 127 are letters like others.
func TestP85Bytes(t *testing.T) {
	s := setup(plain("-a\xc3\xa9\xe9").with(0xc3, lig(0xa9, 0, 0xe9)))
	s.Lower[0xc3], s.Lower[0xa9], s.Lower[0xe9] = 'x', 'y', 'e'
	breaks(t, s, "a\xe9[\xc3\xa9]\xe9a", []int{1, 2, 3, 4}, "a{-||}{\xc3-|\xa9|\xe9[\xc3\xa9]}{-||}\xe9{-||}a")
	lettersAre(t, s, "a\xe9[\xc3\xa9]\xe9a", "axyea")
	hyphenates(t, s, patterns(t, "x1y"), "_a\xe9[\xc3\xa9]\xe9a_", "_a{\xc3-|\xa9|\xe9[\xc3\xa9]}\xe9a_")
}

// Many letters: Break has no bound but the list's.
func TestP85Size(t *testing.T) {
	s := setup(example())
	at := make([]int, 200)
	for i := range at {
		at[i] = 3*i + 2
	}
	want := strings.Repeat("la{-||}l", 200) + strings.Repeat("l", 400)
	breaks(t, s, strings.Repeat("lal", 200)+strings.Repeat("l", 400), at, want)
	breaksNone(t, s, strings.Repeat("lal", 200)+strings.Repeat("l", 401), at, api.ErrSize)
	breaks(t, s, strings.Repeat("lal", 200)+strings.Repeat("l", 405), at[:199], strings.Repeat("la{-||}l", 199)+"lal"+strings.Repeat("l", 405))
	breaksNone(t, s, strings.Repeat("l", 2000), []int{1}, api.ErrSize)
	breaksNone(t, s, strings.Repeat("l", 1996), []int{1995}, api.ErrSize)
	breaks(t, s, strings.Repeat("l", 1995), []int{1994}, strings.Repeat("l", 1994)+"{-||}l")
	breaks(t, s, strings.Repeat("l", 2000), nil, strings.Repeat("l", 2000))
	var all []int
	for p := range 1999 {
		all = append(all, p+1)
	}
	breaksNone(t, s, strings.Repeat("l", 2000), all, api.ErrSize)
	// More letters than a word may have that is made.
	breaksNone(t, s, strings.Repeat("\x0c[fi]", 1001), []int{1}, api.ErrNone)
	breaks(t, s, strings.Repeat("\x0c[fi]", 1000), []int{1}, "{f-|i|\x0c[fi]}"+strings.Repeat("\x0c[fi]", 999))
}

func TestP85Random(t *testing.T) {
	r := &random{85}
	broken := 0
	for range 6000 {
		s := r.setup()
		l := r.nodes(s, r.below(len(s.Fonts)), 7)
		at := r.places(plainCount(l))
		if r.chance(10) {
			at = append(at, r.below(9)-1)
		}
		b, e := words.Break(l, s, at)
		want, e2 := plainBreak(l, s, at)
		if !slices.Equal(b, want) || e != e2 {
			t.Errorf("Break of %s, %v: %s, %d; want %s, %d", told(s, l), at, told(s, b), e, told(s, want), e2)
		}
		if len(b) > len(l) {
			broken++
		}
	}
	if broken < 1000 {
		t.Errorf("only %d words were broken", broken)
	}
}
