package words_test

import (
	"reflect"
	"slices"
	"testing"

	"galley/api"
	"galley/hyph"
	"galley/words"
)

// roomy: a list with room behind it, which is marked.
func roomy[T any](l []T, x T) []T { return append(slices.Clone(l), x, x)[:len(l)] }

// marked: is the room behind a list as it was?
func marked[T any](l []T, x T) bool {
	behind := l[:len(l)+2][len(l):]
	return reflect.DeepEqual(behind, []T{x, x})
}

// answers: of all calls.
type answers struct {
	check                      api.Errno
	made, broken, hyphenated   []api.Node
	from, to                   []int
	letters                    []byte
	errors                     [5]api.Errno
	patterns, exceptions, size any
}

// ask: each call, of a word's letters, its nodes, a row, and places.
func ask(s words.Setup, c []byte, word, row []api.Node, at []int, h *hyph.Hyph) answers {
	a := answers{check: words.Check(s)}
	a.made, a.errors[0] = words.Make(s, 0, c, true, true)
	a.from, a.to, a.errors[1] = words.Find(row, s)
	a.letters, a.errors[2] = words.Letters(word, s)
	a.broken, a.errors[3] = words.Break(word, s, at)
	a.hyphenated, a.errors[4] = words.Hyphenate(row, s, h)
	a.patterns, a.exceptions, a.size = h.Patterns(), h.Exceptions(), h.Size()
	return a
}

func (a answers) same(b answers) bool { return reflect.DeepEqual(a, b) }

const (
	ruleWord = "a(62)v\x0c[fi]la"
	ruleRow  = "_a(62)v\x0c[fi]la_!fila:_la}#_la"
)

func ruleSetup() words.Setup { return setup(example(), plain("-la")) }

func ruleHyph(t *testing.T) *hyph.Hyph { return patterns(t, "1v", "1i", "l-a", "fi-la") }

// What is handed in is not changed, nor the room behind it; the same is answered again.
func TestP1Pure(t *testing.T) {
	s, before := ruleSetup(), ruleSetup()
	s.Fonts, s.Sizes, s.Hyphen = roomy(s.Fonts, api.Font{Check: 99}), roomy(s.Sizes, 99), roomy(s.Hyphen, 99)
	s.Fonts[0].Chars = roomy(s.Fonts[0].Chars, api.Metric{W: 99})
	s.Fonts[0].Steps = roomy(s.Fonts[0].Steps, api.Step{Skip: 99})
	s.Fonts[0].Kerns = roomy(s.Fonts[0].Kerns, 99)
	n := api.Node{Kind: api.Char, Char: '?'}
	c, word, line, at := roomy([]byte("avfila"), '?'), roomy(row(s, ruleWord), n), roomy(row(s, ruleRow), n), roomy([]int{1, 3, 5}, 99)
	h := ruleHyph(t)
	want := ask(before, []byte("avfila"), row(s, ruleWord), row(s, ruleRow), []int{1, 3, 5}, ruleHyph(t))
	for range 3 {
		if got := ask(s, c, word, line, at, h); !got.same(want) {
			t.Errorf("%v; want %v", got, want)
		}
	}
	if want.errors != [5]api.Errno{} || told(s, want.hyphenated) != "_a{-||(62)}v{f-|i|\x0c[fi]}la_!fila:_la}#_l{-||}a" {
		t.Errorf("%v: %s", want.errors, told(s, want.hyphenated))
	}
	if string(c) != "avfila" || told(s, word) != ruleWord || told(s, line) != ruleRow || !slices.Equal(at, []int{1, 3, 5}) {
		t.Error("what was handed in was changed")
	}
	if !marked(c, '?') || !marked(word, n) || !marked(line, n) || !marked(at, 99) || !marked(s.Sizes, 99) || !marked(s.Hyphen, 99) || !marked(s.Fonts, api.Font{Check: 99}) {
		t.Error("the room behind what was handed in was changed")
	}
	f := s.Fonts[0]
	if !marked(f.Chars, api.Metric{W: 99}) || !marked(f.Steps, api.Step{Skip: 99}) || !marked(f.Kerns, 99) || !reflect.DeepEqual(s, before) {
		t.Error("the setup was changed")
	}
}

// What is answered shares nothing with what was handed in, nor with another answer, be it the same list.
func TestP1Share(t *testing.T) {
	s := ruleSetup()
	for _, text := range []string{ruleRow, "_la", "fila", "l", "_", "_:_la}"} {
		for _, at := range [][]int{nil, {1}, {1, 3}} {
			h := ruleHyph(t)
			c, word, line := []byte("avfila"), row(s, ruleWord), row(s, text)
			want := ask(s, []byte("avfila"), row(s, ruleWord), row(s, text), at, h)
			a, b := ask(s, c, word, line, at, h), ask(s, c, word, line, at, h)
			clear(c)
			clear(word)
			clear(line)
			if !a.same(want) {
				t.Errorf("%s: an answer changed with what was handed in", text)
			}
			spoil(&a)
			if !b.same(want) {
				t.Errorf("%s: an answer changed with another one", text)
			}
			if again := ask(s, []byte("avfila"), row(s, ruleWord), row(s, text), at, h); !again.same(want) {
				t.Errorf("%s: answers changed with another one", text)
			}
		}
	}
}

// spoil: all of what was answered, and the room behind it.
func spoil(a *answers) {
	for _, l := range [][]api.Node{a.made, a.broken, a.hyphenated} {
		clear(l[:cap(l)])
	}
	for _, l := range [][]int{a.from, a.to} {
		clear(l[:cap(l)])
	}
	clear(a.letters[:cap(a.letters)])
}

// Two lists of one answer share nothing.
func TestP1Two(t *testing.T) {
	s := ruleSetup()
	from, to, _ := words.Find(row(s, ruleRow), s)
	clear(from[:cap(from)])
	if !slices.Equal(to, []int{7, 22}) {
		t.Errorf("%v", to)
	}
}

// Empty lists mean the same as nil.
func TestP1Empty(t *testing.T) {
	for _, s := range []words.Setup{ruleSetup(), many(0), {Fonts: []api.Font{}, Sizes: []int{}, Hyphen: []int{}, Left: 1, Right: 1}} {
		h := ruleHyph(t)
		for _, l := range [][]api.Node{nil, {}} {
			for _, at := range [][]int{nil, {}} {
				a := ask(s, nil, l, l, at, h)
				if len(a.from)+len(a.to)+len(a.letters)+len(a.broken)+len(a.hyphenated)+len(a.made) != 0 || a.errors[1] != api.OK || a.errors[4] != api.OK ||
					a.errors[2] != api.ErrNone || a.errors[3] != api.ErrNone {
					t.Errorf("%v", a)
				}
			}
		}
	}
	s := ruleSetup()
	breaks(t, s, "al", nil, "al")
	breaks(t, s, "al", []int{}, "al")
}

// Calls at the same time do not meet, though they are handed the same.
func TestP1Together(t *testing.T) {
	s, h := ruleSetup(), ruleHyph(t)
	c, word, line, at := []byte("avfila"), row(s, ruleWord), row(s, ruleRow), []int{1, 3, 5}
	want := ask(s, c, word, line, at, h)
	done := make(chan answers)
	for range 8 {
		go func() { done <- ask(s, c, word, line, at, h) }()
	}
	for range 8 {
		if got := <-done; !got.same(want) {
			t.Errorf("%v; want %v", got, want)
		}
	}
}
