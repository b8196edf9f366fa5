package words_test

import (
	"math"
	"slices"
	"strconv"
	"strings"
	"testing"

	"galley/api"
	"galley/font"
	"galley/words"
)

func text(n int) string { return strconv.Itoa(n) }

func TestP82Examples(t *testing.T) {
	s := setup(example())
	makes(t, s, "fil", "\x0c[fi]l")
	makes(t, s, "fl", "\x0d[fl]")
	makes(t, s, "ff", "ff")
	makes(t, s, "av", "a(62)v")
	makes(t, s, "", "")
	makes(t, s, "<>", "")
	makes(t, s, "<fil>", "\x0c[fi]l")
}

// Measures are those of the font at its size, whichever font it is.
func TestP82Measures(t *testing.T) {
	s := setup(plain("ab"), example())
	for _, size := range []int{1, 12345, 10 << 16, 1<<23 + 1, 1<<27 - 1} {
		s.Sizes[1] = size
		l, e := words.Make(s, 1, []byte("avfi"), false, false)
		if e != api.OK || len(l) != 4 {
			t.Errorf("at %d: %d nodes, %d", size, len(l), e)
			continue
		}
		kern, _ := font.Size(size, 100)
		want := []api.Node{
			{Kind: api.Char, Font: 1, Char: 'a'}, {Kind: api.Kern, W: kern}, {Kind: api.Char, Font: 1, Char: 'v'},
			{Kind: api.Lig, Font: 1, Char: 12, Text: "fi"},
		}
		for i, n := range want {
			if n.Kind != api.Kern {
				want[i].W, want[i].H, want[i].D, _, _ = font.At(s.Fonts[1], n.Char, size)
			}
		}
		if !slices.Equal(l, want) {
			t.Errorf("at %d: %v; want %v", size, l, want)
		}
	}
}

func TestP82Fonts(t *testing.T) {
	s := setup(example(), example())
	for _, f := range []int{-1, 2, 63, 64, 1 << 32, math.MinInt, math.MaxInt} {
		makesNone(t, s, f, []byte("fil"), api.ErrRange)
		makesNone(t, s, f, []byte("?"), api.ErrRange)
		makesNone(t, many(0), f, nil, api.ErrRange)
	}
	makesNone(t, many(0), 0, []byte("a"), api.ErrRange)
}

// Ligatures' texts are those letters for which they stand, at their places; every byte is one.
func TestP82Texts(t *testing.T) {
	d := plain("abz\x80\xc3\xa9\xff")
	d.with(0xc3, lig(0xa9, 0, 0xff)).with('a', lig(0x80, 0, 'z'), lig('b', 1, 'z'), lig('a', 2, 'z')).with('z', lig('b', 0, 'z'))
	s := setup(d)
	makes(t, s, "\xc3\xa9\xc3", "\xff[\xc3\xa9]\xc3")
	makes(t, s, "a\x80bb", "z[a\x80bb]")
	makes(t, s, "aba\x80", "z[ab]z[a\x80]")
	makes(t, s, "ba\x80", "bz[a\x80]")
	makes(t, s, "aa", "az[a]")
	makes(t, s, "\xff\x80a", "\xff\x80a")
}

// The ends have their part only where they are asked for.
func TestP82Ends(t *testing.T) {
	d := plain("abxy").bounded('z').with(-1, lig('a', 0, 'x')).with('a', lig('z', 0, 'y')).with('b', kern('z', 1))
	s := setup(d)
	makes(t, s, "aba", "aba")
	makes(t, s, "<aba", "x[a]ba")
	makes(t, s, "aba>", "aby[a]")
	makes(t, s, "<aba>", "x[a]by[a]")
	makes(t, s, "b>", "b(125)")
	makes(t, s, "<a>", "x[a]")
}

// What the program answers as errors of the letters.
func TestP82Run(t *testing.T) {
	s := setup(example())
	makesNone(t, s, 0, []byte("?"), api.ErrChar)
	makesNone(t, s, 0, []byte("fil?"), api.ErrChar)
	makesNone(t, s, 0, []byte{0}, api.ErrChar)
	makesNone(t, s, 0, []byte(strings.Repeat("?", 2001)), api.ErrSize)
	makesNone(t, s, 0, []byte(strings.Repeat("l", 2001)), api.ErrSize)
	if l, e := words.Make(s, 0, []byte(strings.Repeat("l", 2000)), true, true); len(l) != 2000 || e != api.OK {
		t.Errorf("Make of 2000 letters: %d, %d", len(l), e)
	}
	// 667 kerns, 1334 letters: one too many.
	if l, e := words.Make(s, 0, []byte(strings.Repeat("av", 666)), true, true); len(l) != 1998 || e != api.OK {
		t.Errorf("Make of 1332 letters: %d, %d", len(l), e)
	}
	makesNone(t, s, 0, []byte(strings.Repeat("av", 667)), api.ErrSize)
	// 2000 letters, but half as many nodes.
	if l, e := words.Make(s, 0, []byte(strings.Repeat("fi", 1000)), true, true); len(l) != 1000 || e != api.OK {
		t.Errorf("Make of 1000 ligatures: %d, %d", len(l), e)
	}
}

// A ligature stands for 1 to 63 letters.
func TestP82Ligatures(t *testing.T) {
	s := setup(plain("abz").with('a', lig('a', 0, 'a'), lig('b', 3, 'z')))
	for n := 2; n <= 63; n++ {
		makes(t, s, strings.Repeat("a", n), "a["+strings.Repeat("a", n)+"]")
	}
	makesNone(t, s, 0, []byte(strings.Repeat("a", 64)), api.ErrChar)
	makesNone(t, s, 0, []byte(strings.Repeat("a", 65)), api.ErrChar)
	makesNone(t, s, 0, []byte("b"+strings.Repeat("a", 2000-1)), api.ErrChar)
	makesNone(t, s, 0, []byte("ab"), api.ErrChar)
	makesNone(t, s, 0, []byte("bbbab"), api.ErrChar)
	s = setup(plain("az").bounded('e').with(-1, lig('a', 1, 'z')).with('a', lig('e', 2, 'z')))
	makes(t, s, "aa", "aa")
	for _, word := range []string{"<a", "a>", "<a>"} {
		l, e := made(s, word)
		isnt(t, word, l, e, api.ErrChar)
	}
}

// Measures are dimensions, each of them.
func TestP82Dimensions(t *testing.T) {
	const most = 1<<24 - 1
	// At this size most comes to no more than MaxDimen, and at the next one to more.
	const at = 1 << 26
	for i := range 4 {
		for _, sign := range []int{1, -1} {
			s := setup(plain("ab-").with('a', kern('b', 0)))
			f := &s.Fonts[0]
			m := &f.Chars['a'-f.First]
			*[4]*int{&m.W, &m.H, &m.D, &f.Kerns[0]}[i] = sign * most
			s.Sizes[0] = at
			l, e := words.Make(s, 0, []byte("ab"), false, false)
			if len(l) != 3 || e != api.OK {
				t.Errorf("%d: at %d: %v, %d", i, at, l, e)
			}
			s.Sizes[0] = at + 1<<10
			if n, _ := font.Size(s.Sizes[0], sign*most); n >= -api.MaxDimen && n <= api.MaxDimen {
				t.Fatal("no test:", n)
			}
			l, e = words.Make(s, 0, []byte("ab"), false, false)
			isnt(t, "at a greater size", l, e, api.ErrRange)
			l, e = words.Make(s, 0, []byte("bab"), true, true)
			isnt(t, "at a greater size", l, e, api.ErrRange)
			// An italic has no part.
			*[4]*int{&m.W, &m.H, &m.D, &f.Kerns[0]}[i], m.Italic = 0, sign*most
			if l, e = words.Make(s, 0, []byte("ab"), false, false); len(l) != 3 || e != api.OK {
				t.Errorf("italic: %v, %d", l, e)
			}
		}
	}
}

// A ligature that is none comes ahead of measures that are none, wherever it stands.
func TestP82Both(t *testing.T) {
	s := setup(plain("abcz").with('b', lig('c', 3, 'z')))
	s.Fonts[0].Chars[0].W = 1<<24 - 1
	s.Sizes[0] = 1<<27 - 1
	l, e := made(s, "a")
	isnt(t, "a", l, e, api.ErrRange)
	for _, word := range []string{"abc", "bca"} {
		l, e := made(s, word)
		isnt(t, word, l, e, api.ErrChar)
	}
}

func TestP82Random(t *testing.T) {
	r := &random{82}
	for range 2000 {
		s := r.setup()
		if r.chance(10) {
			s.Sizes[0] = 1 + r.below(1<<27-1)
			s.Fonts[0].Chars['a'-s.Fonts[0].First].W = r.below(1<<25-1) - 1<<24 + 1
		}
		f, word := r.below(len(s.Fonts)), r.word(few, 8)
		for _, with := range [][2]bool{{}, {true, false}, {false, true}, {true, true}} {
			l, e := words.Make(s, f, word, with[0], with[1])
			want, e2 := plainMake(s, f, word, with[0], with[1])
			if !slices.Equal(l, want) || e != e2 {
				t.Errorf("Make of %q, %v: %s, %d; want %s, %d", word, with, told(s, l), e, told(s, want), e2)
			}
		}
	}
}
