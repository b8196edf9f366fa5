package words_test

import (
	"slices"
	"strconv"
	"strings"
	"testing"

	"galley/api"
	"galley/font"
	"galley/hyph"
	"galley/words"
)

// draft: of a font: the characters that are there, the boundary character (-1: none), and the steps of marks (-1: Left).
// Kern n is 100 n + 100; each character is as wide, high and deep as its number says.
type draft struct {
	chars string
	edge  int
	steps map[int][]api.Step
}

// plain: of characters without steps.
func plain(chars string) draft { return draft{chars, -1, map[int][]api.Step{}} }

// lig: a step that puts a character in; kern: one that puts kern n in.
func lig(next byte, op, rest byte) api.Step { return api.Step{Next: next, Op: op, Rest: rest} }

func kern(next byte, n byte) api.Step { return api.Step{Next: next, Op: 128, Rest: n} }

// with: and these steps of a mark behind those that it has.
func (d draft) with(x int, l ...api.Step) draft {
	d.steps[x] = append(d.steps[x], l...)
	return d
}

func (d draft) bounded(c int) draft {
	d.edge = c
	return d
}

// font: each mark's steps behind one another, the last one with Skip 128.
func (d draft) font() api.Font {
	f := withChars(d.chars)
	for n := range 256 {
		f.Kerns = append(f.Kerns, 100*n+100)
	}
	if d.edge >= 0 {
		f.Steps = append(f.Steps, api.Step{Skip: 255, Next: byte(d.edge)})
	}
	left := len(f.Steps)
	for x := -1; x < 256; x++ {
		l := d.steps[x]
		if len(l) == 0 {
			continue
		}
		if x >= 0 {
			f.Chars[x-f.First].Tag, f.Chars[x-f.First].Rest = 1, len(f.Steps)
		}
		f.Steps = append(f.Steps, l...)
		f.Steps[len(f.Steps)-1].Skip = 128
	}
	if len(d.steps[-1]) > 0 {
		f.Steps = append(f.Steps, api.Step{Skip: 255, Rest: byte(left)})
	}
	return f
}

// withChars: a font with just these characters.
func withChars(chars string) api.Font {
	f := api.Font{Design: 10 << 20}
	if chars == "" {
		return f
	}
	f.First = int(slices.Min([]byte(chars)))
	f.Chars = slices.Repeat([]api.Metric{{Tag: -1}}, int(slices.Max([]byte(chars)))-f.First+1)
	for _, c := range []byte(chars) {
		f.Chars[int(c)-f.First] = api.Metric{W: int(c) << 12, H: int(c) << 11, D: int(c) << 10, Italic: 1 << 9}
	}
	return f
}

// alphabet: all that texts of words are written in.
const alphabet = "-abcdefghijklmnopqrstuvwxyzABCDEFGHIJKLMNOPQRSTUVWXYZ"

// example: the chapter's font, and more letters.
func example() draft {
	return plain(alphabet+"\x0c\x0d").with('f', lig('i', 0, 12), lig('l', 0, 13)).with('a', kern('v', 0))
}

// setup: of these fonts at 10pt, where capital letters count as small ones.
func setup(drafts ...draft) words.Setup {
	s := words.Setup{Left: 1, Right: 1, Upper: true}
	for _, d := range drafts {
		s.Fonts, s.Sizes, s.Hyphen = append(s.Fonts, d.font()), append(s.Sizes, 10<<16), append(s.Hyphen, '-')
	}
	for c := byte('a'); c <= 'z'; c++ {
		s.Lower[c], s.Lower[c-32] = c, c
	}
	return s
}

// signs: by its kind's number what a node is in a list's text, but for letters: a letter is a Char, a letter and [..] a
// Lig, with ' ahead of it of font 1, with " of font 2; (..) is a Kern, (../..) one with that Sub.
const signs = "   %:;}_ #{|@~!$&^"

// row: the list whose text this is.
func row(s words.Setup, text string) []api.Node {
	var l []api.Node
	for len(text) > 0 {
		if kind := strings.IndexByte(signs, text[0]); kind > 0 {
			l, text = append(l, api.Node{Kind: kind}), text[1:]
			continue
		}
		if text[0] == '(' {
			inside, behind, _ := strings.Cut(text[1:], ")")
			number, sub, _ := strings.Cut(inside, "/")
			n := api.Node{Kind: api.Kern}
			n.W, _ = strconv.Atoi(number)
			n.Sub, _ = strconv.Atoi(sub)
			l, text = append(l, n), behind
			continue
		}
		f := max(strings.IndexByte(fonts, text[0]), 0)
		n, behind := letter(text[min(f, 1):])
		n.Font = f
		l, text = append(l, measured(s, n)), behind
	}
	return l
}

// fonts: by its number what stands ahead of a font's letters; of font 0 nothing does.
const fonts = " '\""

// letter: the Char or Lig at the beginning of a text, and what is behind it.
func letter(text string) (api.Node, string) {
	n := api.Node{Kind: api.Char, Char: text[0]}
	if len(text) == 1 || text[1] != '[' {
		return n, text[1:]
	}
	n.Kind = api.Lig
	n.Text, text, _ = strings.Cut(text[2:], "]")
	return n, text
}

// measured: with a character's measures, if the setup has it.
func measured(s words.Setup, n api.Node) api.Node {
	if n.Font < len(s.Fonts) {
		n.W, n.H, n.D, _, _ = font.At(s.Fonts[n.Font], n.Char, s.Sizes[n.Font])
	}
	return n
}

// told: a list as its text.
func told(s words.Setup, l []api.Node) string {
	var b strings.Builder
	for _, n := range l {
		text := ""
		switch n.Kind {
		case api.Char:
			text = fonts[n.Font:n.Font+1] + string([]byte{n.Char})
		case api.Lig:
			text = fonts[n.Font:n.Font+1] + string([]byte{n.Char}) + "[" + n.Text + "]"
		case api.Kern:
			text = "(" + strconv.Itoa(n.W) + "/" + strconv.Itoa(n.Sub) + ")"
		default:
			text = signs[n.Kind : n.Kind+1]
		}
		text = strings.TrimPrefix(strings.Replace(text, "/0)", ")", 1), " ")
		b.WriteString(text)
		if !slices.Equal(row(s, text), []api.Node{n}) {
			b.WriteString("?")
		}
	}
	return b.String()
}

// is: is it the list with this text?
func is(t *testing.T, name string, s words.Setup, l []api.Node, e api.Errno, want string) {
	t.Helper()
	if !slices.Equal(l, row(s, want)) || e != api.OK {
		t.Errorf("%.200s: %.400s, %d; want %.400s", name, told(s, l), e, want)
	}
}

// isnt: does it answer just this error?
func isnt(t *testing.T, name string, l []api.Node, e, want api.Errno) {
	t.Helper()
	if len(l) != 0 || e != want {
		t.Errorf("%.200s: %d nodes, %d; want %d alone", name, len(l), e, want)
	}
}

// makes asks for a word's nodes: < at its beginning stands for left, > at its end for right.
func makes(t *testing.T, s words.Setup, word, want string) {
	t.Helper()
	l, e := made(s, word)
	is(t, "Make of "+word, s, l, e, want)
}

func made(s words.Setup, word string) ([]api.Node, api.Errno) {
	letters, left := strings.CutPrefix(word, "<")
	letters, right := strings.CutSuffix(letters, ">")
	return words.Make(s, 0, []byte(letters), left, right)
}

func makesNone(t *testing.T, s words.Setup, f int, word []byte, want api.Errno) {
	t.Helper()
	for _, with := range [][2]bool{{}, {true, false}, {false, true}, {true, true}} {
		l, e := words.Make(s, f, word, with[0], with[1])
		isnt(t, "Make", l, e, want)
	}
}

// finds asks for the words of a row; want is the row's text, with each word between < and >.
func finds(t *testing.T, s words.Setup, want string) {
	t.Helper()
	var from, to []int
	text := ""
	for i := range len(want) {
		switch want[i] {
		case '<':
			from = append(from, len(row(s, text)))
		case '>':
			to = append(to, len(row(s, text)))
		default:
			text += want[i : i+1]
		}
	}
	gotFrom, gotTo, e := words.Find(row(s, text), s)
	if !slices.Equal(gotFrom, from) || !slices.Equal(gotTo, to) || e != api.OK {
		t.Errorf("Find of %.200s: %v, %v, %d; want %.200s: %v, %v", text, gotFrom, gotTo, e, want, from, to)
	}
}

// breaks asks for a word's breaks.
func breaks(t *testing.T, s words.Setup, text string, at []int, want string) {
	t.Helper()
	l, e := words.Break(row(s, text), s, at)
	is(t, "Break of "+text, s, l, e, want)
}

func breaksNone(t *testing.T, s words.Setup, text string, at []int, want api.Errno) {
	t.Helper()
	l, e := words.Break(row(s, text), s, at)
	isnt(t, "Break of "+text, l, e, want)
}

// told to a Hyph: patterns, and exceptions: texts with a hyphen, and words behind a star.
func patterns(t *testing.T, texts ...string) *hyph.Hyph {
	t.Helper()
	h := hyph.New()
	for _, text := range texts {
		say := h.Pattern
		if word, found := strings.CutPrefix(text, "*"); found || strings.Contains(text, "-") {
			say, text = h.Except, word
		}
		if e := say(text); e != api.OK {
			t.Errorf("%q: %d", text, e)
		}
	}
	return h
}

// hyphenates asks for a row's hyphens.
func hyphenates(t *testing.T, s words.Setup, h *hyph.Hyph, text, want string) {
	t.Helper()
	l, e := words.Hyphenate(row(s, text), s, h)
	is(t, "Hyphenate of "+text, s, l, e, want)
}
