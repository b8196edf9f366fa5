package words_test

import (
	"math"
	"slices"
	"testing"

	"galley/api"
	"galley/hyph"
	"galley/words"
)

// many: a setup of so many fonts.
func many(n int) words.Setup {
	s := words.Setup{Left: 1, Right: 1}
	for range n {
		s.Fonts, s.Sizes, s.Hyphen = append(s.Fonts, withChars("a-")), append(s.Sizes, 10<<16), append(s.Hyphen, '-')
	}
	return s
}

// changed: an ordinary setup, but for what change does.
func changed(change func(s *words.Setup)) words.Setup {
	s := setup(example(), plain("a-"))
	change(&s)
	return s
}

func rightSetups() map[string]words.Setup {
	return map[string]words.Setup{
		"ordinary":         setup(example()),
		"no font":          many(0),
		"empty lists":      {Fonts: []api.Font{}, Sizes: []int{}, Hyphen: []int{}, Left: 1, Right: 1},
		"64 fonts":         many(64),
		"a font of none":   changed(func(s *words.Setup) { s.Fonts[1] = api.Font{Design: 1 << 20} }),
		"size 1":           changed(func(s *words.Setup) { s.Sizes[1] = 1 }),
		"the most size":    changed(func(s *words.Setup) { s.Sizes[0] = 1<<27 - 1 }),
		"hyphen -1":        changed(func(s *words.Setup) { s.Hyphen[1] = -1 }),
		"hyphen 0":         changed(func(s *words.Setup) { s.Hyphen[1] = 0 }),
		"hyphen 255":       changed(func(s *words.Setup) { s.Hyphen[0] = 255 }),
		"Left 63":          changed(func(s *words.Setup) { s.Left = 63 }),
		"Right 63":         changed(func(s *words.Setup) { s.Right = 63 }),
		"no letters":       changed(func(s *words.Setup) { s.Lower = [256]byte{} }),
		"bytes all about":  changed(func(s *words.Setup) { s.Lower = [256]byte{0: 255, 'a': 'A', 'b': 1, 'c': '`', 'd': '{', 255: 'a'} }),
		"only Upper false": changed(func(s *words.Setup) { s.Upper = false }),
	}
}

func wrongSetups() map[string]words.Setup {
	m := map[string]words.Setup{
		"zero":           {},
		"65 fonts":       many(65),
		"1000 fonts":     many(1000),
		"Sizes longer":   changed(func(s *words.Setup) { s.Sizes = append(s.Sizes, 1) }),
		"Sizes shorter":  changed(func(s *words.Setup) { s.Sizes = s.Sizes[:1] }),
		"Hyphen longer":  changed(func(s *words.Setup) { s.Hyphen = append(s.Hyphen, 1) }),
		"Hyphen shorter": changed(func(s *words.Setup) { s.Hyphen = s.Hyphen[:1] }),
		"Fonts longer":   changed(func(s *words.Setup) { s.Fonts = append(s.Fonts, s.Fonts[0]) }),
		"Fonts shorter":  changed(func(s *words.Setup) { s.Fonts = s.Fonts[:1] }),
		"Fonts none":     changed(func(s *words.Setup) { s.Fonts = nil }),
		"no font":        changed(func(s *words.Setup) { s.Fonts[1] = api.Font{} }),
		"no program's end": changed(func(s *words.Setup) {
			s.Fonts[1] = plain("f-").with('f', lig('f', 2, 'f')).font()
		}),
	}
	for _, n := range []int{0, -1, 1 << 27, 1<<32 + 1, math.MinInt, math.MaxInt} {
		m["size "+text(n)] = changed(func(s *words.Setup) { s.Sizes[1] = n })
	}
	for _, n := range []int{-2, 256, 1 << 32, 256 + '-', math.MinInt, math.MaxInt} {
		m["hyphen "+text(n)] = changed(func(s *words.Setup) { s.Hyphen[1] = n })
	}
	for _, n := range []int{0, -1, 64, 1<<32 + 1, math.MinInt, math.MaxInt} {
		m["Left "+text(n)] = changed(func(s *words.Setup) { s.Left = n })
		m["Right "+text(n)] = changed(func(s *words.Setup) { s.Right = n })
	}
	return m
}

func TestP81Check(t *testing.T) {
	for name, s := range rightSetups() {
		if e := words.Check(s); e != api.OK {
			t.Errorf("%s: Check = %d", name, e)
		}
	}
	for name, s := range wrongSetups() {
		if e := words.Check(s); e != api.ErrArg {
			t.Errorf("%s: Check = %d; want %d", name, e, api.ErrArg)
		}
	}
}

// wrongLists: lists that are none, by their error.
func wrongLists() map[api.Errno][]api.Node {
	deep := slices.Concat(slices.Repeat([]api.Node{{Kind: api.HBox}}, 40), []api.Node{{Kind: api.Skip}}, slices.Repeat([]api.Node{{Kind: api.End}}, 40))
	return map[api.Errno][]api.Node{
		api.ErrSize: slices.Repeat([]api.Node{{Kind: api.Char, Char: 'a'}}, 2001),
		api.ErrList: {{Kind: api.Char, Char: 'a', Sub: 1}},
		api.ErrDeep: deep,
	}
}

// The setup's error comes ahead of all else, and the list's ahead of all that is left.
func TestP81First(t *testing.T) {
	h := patterns(t, "1a")
	for name, s := range wrongSetups() {
		for _, f := range []int{0, -1, 64} {
			l, e := words.Make(s, f, []byte("?"), true, false)
			isnt(t, name+": Make", l, e, api.ErrArg)
		}
		for _, l := range wrongLists() {
			failsAll(t, name, s, l, h, api.ErrArg)
		}
		failsAll(t, name, s, nil, nil, api.ErrArg)
		failsAll(t, name, s, row(setup(example()), "_fila_"), h, api.ErrArg)
	}
	for want, l := range wrongLists() {
		for _, h := range []*hyph.Hyph{nil, {}, h} {
			failsAll(t, "wrong list", setup(example()), l, h, want)
			failsAll(t, "wrong list, no font", many(0), l, h, want)
		}
	}
}

// failsAll: each call that takes a list answers just this error.
func failsAll(t *testing.T, name string, s words.Setup, l []api.Node, h *hyph.Hyph, want api.Errno) {
	t.Helper()
	if from, to, e := words.Find(l, s); len(from) != 0 || len(to) != 0 || e != want {
		t.Errorf("%s: Find = %v, %v, %d; want %d", name, from, to, e, want)
	}
	if c, e := words.Letters(l, s); len(c) != 0 || e != want {
		t.Errorf("%s: Letters = %q, %d; want %d", name, c, e, want)
	}
	for _, at := range [][]int{nil, {1}, {-1}, {1, 1}} {
		b, e := words.Break(l, s, at)
		isnt(t, name+": Break", b, e, want)
	}
	b, e := words.Hyphenate(l, s, h)
	isnt(t, name+": Hyphenate", b, e, want)
}
