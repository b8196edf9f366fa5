package words_test

import (
	"slices"

	"galley/api"
	"galley/font"
	"galley/hyph"
	"galley/ligkern"
	"galley/nodes"
	"galley/words"
)

// What the chapter's words say, done word for word: what the program answers is held against it.

func plainCheck(s words.Setup) api.Errno {
	n := len(s.Fonts)
	if n > 64 || len(s.Sizes) != n || len(s.Hyphen) != n || s.Left < 1 || s.Left > 63 || s.Right < 1 || s.Right > 63 {
		return api.ErrArg
	}
	for i, f := range s.Fonts {
		if ligkern.Check(f) != api.OK || s.Sizes[i] < 1 || s.Sizes[i] > 134217727 || s.Hyphen[i] < -1 || s.Hyphen[i] > 255 {
			return api.ErrArg
		}
	}
	return api.OK
}

func plainFirst(l []api.Node, s words.Setup) api.Errno {
	if e := plainCheck(s); e != api.OK {
		return e
	}
	return nodes.Check(l)
}

func plainHyphen(s words.Setup, f int) (byte, bool) {
	if s.Hyphen[f] == -1 {
		return 0, false
	}
	_, found := font.Metric(s.Fonts[f], byte(s.Hyphen[f]))
	return byte(s.Hyphen[f]), found
}

func plainMake(s words.Setup, f int, word []byte, left, right bool) ([]api.Node, api.Errno) {
	if e := plainCheck(s); e != api.OK {
		return nil, e
	}
	if f < 0 || f >= len(s.Fonts) {
		return nil, api.ErrRange
	}
	pieces, e := ligkern.Run(s.Fonts[f], word, left, right)
	if e != api.OK {
		return nil, e
	}
	for _, p := range pieces {
		if p.Kind == api.Lig && (p.N < 1 || p.N > 63) {
			return nil, api.ErrChar
		}
	}
	var l []api.Node
	for _, p := range pieces {
		var n api.Node
		if p.Kind == api.Kern {
			n.Kind = api.Kern
			n.W, _ = font.Size(s.Sizes[f], p.Size)
		} else {
			n = api.Node{Kind: p.Kind, Font: f, Char: p.Char}
			n.W, n.H, n.D, _, _ = font.At(s.Fonts[f], p.Char, s.Sizes[f])
			if p.Kind == api.Lig {
				n.Text = string(word[:p.N])
			}
			word = word[p.N:]
		}
		if max(n.W, n.H, n.D) > 1073741823 || min(n.W, n.H, n.D) < -1073741823 {
			return nil, api.ErrRange
		}
		l = append(l, n)
	}
	return l, api.OK
}

func plainLetters(n api.Node) []byte {
	switch n.Kind {
	case api.Char:
		return []byte{n.Char}
	case api.Lig:
		return []byte(n.Text)
	}
	return nil
}

func plainCounts(s words.Setup, c byte) byte {
	if k := s.Lower[c]; 'a' <= k && k <= 'z' {
		return k
	}
	return 0
}

func plainWordly(n api.Node, s words.Setup, f int) bool {
	if n.Kind == api.Kern {
		return n.Sub == 0
	}
	return (n.Kind == api.Char || n.Kind == api.Lig) && n.Font == f && !slices.ContainsFunc(plainLetters(n), func(c byte) bool { return plainCounts(s, c) == 0 })
}

func plainFind(l []api.Node, s words.Setup) (from, to []int, e api.Errno) {
	if e := plainFirst(l, s); e != api.OK {
		return nil, nil, e
	}
	for at := 0; at < len(l); {
		behind, _ := nodes.Item(l, at)
		if l[at].Kind == api.Skip {
			if begin, end, found := plainBehind(l, behind, s); found {
				from, to = append(from, begin), append(to, end)
			}
		}
		at = behind
	}
	return from, to, api.OK
}

// plainBehind: the word behind a Skip.
func plainBehind(l []api.Node, at int, s words.Setup) (from, to int, found bool) {
	char := func(at int) bool { return at < len(l) && (l[at].Kind == api.Char || l[at].Kind == api.Lig) }
	fontKern := func(at int) bool { return at < len(l) && l[at].Kind == api.Kern && l[at].Sub == 0 }
	special := func(at int) bool { return at < len(l) && l[at].Kind == api.Special }
	for char(at) && plainCounts(s, plainLetters(l[at])[0]) == 0 || fontKern(at) || special(at) {
		at++
	}
	if !char(at) {
		return 0, 0, false
	}
	f := l[at].Font
	if f >= len(s.Fonts) {
		return 0, 0, false
	}
	if _, found := plainHyphen(s, f); !found {
		return 0, 0, false
	}
	if c := plainLetters(l[at])[0]; !s.Upper && c != plainCounts(s, c) {
		return 0, 0, false
	}
	from, to = at, at
	count := 0
	for to < len(l) && plainWordly(l[to], s, f) && count+len(plainLetters(l[to])) <= 63 {
		count += len(plainLetters(l[to]))
		to++
	}
	for to > from && l[to-1].Kind == api.Kern {
		to--
	}
	for at = to; char(at) || fontKern(at); at++ {
	}
	if at < len(l) && !slices.Contains([]int{api.Skip, api.Penalty, api.Mark, api.Special, api.Ins, api.Adjust, api.Kern}, l[at].Kind) {
		return 0, 0, false
	}
	return from, to, to > from && count >= s.Left+s.Right
}

func plainAll(l []api.Node, s words.Setup) ([]byte, api.Errno) {
	if e := plainFirst(l, s); e != api.OK {
		return nil, e
	}
	if len(l) == 0 || l[0].Kind != api.Char && l[0].Kind != api.Lig || l[0].Font >= len(s.Fonts) {
		return nil, api.ErrNone
	}
	var letters []byte
	for _, n := range l {
		if !plainWordly(n, s, l[0].Font) {
			return nil, api.ErrNone
		}
		for _, c := range plainLetters(n) {
			letters = append(letters, plainCounts(s, c))
		}
	}
	return letters, api.OK
}

// plainCount: how many letters nodes have.
func plainCount(l []api.Node) int {
	count := 0
	for _, n := range l {
		count += len(plainLetters(n))
	}
	return count
}

// plainDisc: of a place: where its cut begins and ends, and the discretionary.
func plainDisc(l, ahead, behind []api.Node, p int) (x, y int, disc []api.Node) {
	for x = len(l); x > len(ahead) || !slices.Equal(l[:x], ahead[:x]) || plainCount(l[:x]) > p; x-- {
	}
	ends := func(y int) bool {
		from := len(behind) - (len(l) - y)
		return from >= 0 && slices.Equal(l[y:], behind[from:])
	}
	for y = x; !ends(y) || plainCount(l[:y]) < p; y++ {
	}
	sep := api.Node{Kind: api.Sep}
	disc = append(disc, api.Node{Kind: api.Disc})
	disc = append(disc, ahead[x:]...)
	disc = append(disc, sep)
	disc = append(disc, behind[:len(behind)-(len(l)-y)]...)
	disc = append(disc, sep)
	disc = append(disc, l[x:y]...)
	return x, y, append(disc, api.Node{Kind: api.End})
}

func plainBreak(l []api.Node, s words.Setup, at []int) ([]api.Node, api.Errno) {
	counted, e := plainAll(l, s)
	if e != api.OK {
		return nil, e
	}
	for i, p := range at {
		if p < 1 || p > len(counted)-1 || i > 0 && p <= at[i-1] {
			return nil, api.ErrRange
		}
	}
	f := l[0].Font
	hyphen, found := plainHyphen(s, f)
	if !found {
		return nil, api.ErrNone
	}
	var c []byte
	for _, n := range l {
		c = append(c, plainLetters(n)...)
	}
	left, right, found := plainWith(l, s, f, c)
	if !found {
		return nil, api.ErrNone
	}
	var out []api.Node
	last := 0
	for _, p := range at {
		ahead, e := plainMake(s, f, slices.Concat(c[:p], []byte{hyphen}), left, false)
		behind, e2 := plainMake(s, f, c[p:], true, right)
		if e != api.OK || e2 != api.OK {
			continue
		}
		x, y, disc := plainDisc(l, ahead, behind, p)
		if x < last {
			continue
		}
		out = append(append(out, l[last:x]...), disc...)
		last = y
	}
	out = append(out, l[last:]...)
	if len(out) > 2000 {
		return nil, api.ErrSize
	}
	return out, api.OK
}

// plainWith: with what a word is made.
func plainWith(l []api.Node, s words.Setup, f int, c []byte) (left, right, found bool) {
	for _, with := range [][2]bool{{false, false}, {true, false}, {false, true}, {true, true}} {
		if made, e := plainMake(s, f, c, with[0], with[1]); e == api.OK && slices.Equal(made, l) {
			return with[0], with[1], true
		}
	}
	return false, false, false
}

func plainHyphenate(l []api.Node, s words.Setup, h *hyph.Hyph) ([]api.Node, api.Errno) {
	from, to, e := plainFind(l, s)
	if e != api.OK {
		return nil, e
	}
	if _, e := h.Values("a"); e == api.ErrArg {
		return nil, api.ErrArg
	}
	out := slices.Clone(l)
	for i := len(from) - 1; i >= 0; i-- {
		word := l[from[i]:to[i]]
		letters, _ := plainAll(word, s)
		points, _ := h.Points(string(letters), s.Left, s.Right)
		broken, e := plainBreak(word, s, points)
		if e == api.ErrNone {
			continue
		}
		if e != api.OK {
			return nil, e
		}
		out = slices.Replace(out, from[i], to[i], broken...)
	}
	if len(out) > 2000 {
		return nil, api.ErrSize
	}
	return out, api.OK
}
