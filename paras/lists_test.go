package paras_test

import (
	"fmt"
	"reflect"
	"slices"
	"strings"
	"testing"

	"galley/api"
	"galley/hyph"
	"galley/paras"
	"galley/words"
)

const (
	most   = api.MaxDimen
	number = api.MaxNumber
)

// Letters are 5 wide, hyphens 1.
const (
	wide   = 5
	narrow = 1
)

func join(parts ...[]api.Node) []api.Node { return slices.Concat(parts...) }

func repeat(l []api.Node, times int) []api.Node { return slices.Repeat(l, times) }

func one(n api.Node) []api.Node { return []api.Node{n} }

func open(n api.Node, contents ...[]api.Node) []api.Node {
	return join(one(n), join(contents...), one(api.Node{Kind: api.End}))
}

func box(w int, contents ...[]api.Node) []api.Node {
	return open(api.Node{Kind: api.HBox, W: w, H: 7, D: 3, Shift: 2}, contents...)
}

func kern(w, sub int) []api.Node { return one(api.Node{Kind: api.Kern, W: w, Sub: sub}) }

func penalty(q int) []api.Node { return one(api.Node{Kind: api.Penalty, Penalty: q}) }

func glued(g api.Glue) []api.Node { return one(api.Node{Kind: api.Skip, Glue: g}) }

// side: a line's Skip at its left (8), or at its right (9); the Skip at a paragraph's end (15).
func side(g api.Glue, sub int) []api.Node { return one(api.Node{Kind: api.Skip, Glue: g, Sub: sub}) }

func skip(nat, stretch, shrink int) []api.Node {
	return glued(api.Glue{Nat: nat, Stretch: stretch, Shrink: shrink})
}

// fil: glue that stretches without end.
func fil() api.Glue { return api.Glue{Stretch: 1, StretchOrder: 1} }

func formula(kind, w int) []api.Node { return one(api.Node{Kind: kind, W: w}) }

func mark(text string) []api.Node { return one(api.Node{Kind: api.Mark, Text: text}) }

func insert(contents ...[]api.Node) []api.Node {
	return open(api.Node{Kind: api.Ins, Sub: 7, H: 99, D: 9, Glue: api.Glue{Nat: 5, Stretch: 5, Shrink: 5}}, contents...)
}

func adjust(contents ...[]api.Node) []api.Node { return open(api.Node{Kind: api.Adjust}, contents...) }

// nested: so many boxes around one another, and a list in the midst.
func nested(times int, l []api.Node) []api.Node {
	return join(repeat(one(api.Node{Kind: api.HBox}), times), l, repeat(one(api.Node{Kind: api.End}), times))
}

// gap: between words.
func gap() api.Glue { return api.Glue{Nat: 3, Stretch: 2, Shrink: 1} }

// row: the list whose text this is: letters, _ for a gap, and {..|..|..} for a Disc.
func row(text string) []api.Node {
	var l []api.Node
	for i := range len(text) {
		l = append(l, sign(text[i]))
	}
	return l
}

func sign(c byte) api.Node {
	switch c {
	case '_':
		return api.Node{Kind: api.Skip, Glue: gap()}
	case '{':
		return api.Node{Kind: api.Disc}
	case '|':
		return api.Node{Kind: api.Sep}
	case '}':
		return api.Node{Kind: api.End}
	case '-':
		return api.Node{Kind: api.Char, Char: c, W: narrow, H: 4, D: 1}
	}
	return api.Node{Kind: api.Char, Char: c, W: wide, H: 4, D: 1}
}

// para: a paragraph of that text, with its end.
func para(text string) []api.Node { return finished(row(text)) }

func finished(l []api.Node) []api.Node { return join(l, penalty(10000), side(fil(), 15)) }

// told: a list as the text whose row it is; nodes that stand in none by their numbers.
func told(l []api.Node) string {
	var b strings.Builder
	for _, n := range l {
		switch {
		case n.Kind == api.Char && n == sign(n.Char):
			b.WriteByte(n.Char)
		case n == sign('_'):
			b.WriteByte('_')
		default:
			fmt.Fprintf(&b, "<%d w%d s%d q%d>", n.Kind, n.W, n.Sub, n.Penalty)
		}
	}
	return strings.NewReplacer("<10 w0 s0 q0>", "{", "<11 w0 s0 q0>", "|", "<6 w0 s0 q0>", "}").Replace(b.String())
}

func choiceText(c paras.Choice) string {
	return fmt.Sprintf("pass %d, %v, demerits %d, loose %d, %s", c.Pass, c.At, c.Demerits, c.Loose, told(c.List))
}

func resultText(r paras.Result) string {
	return fmt.Sprintf("%s, lines %v, bad %v, over %v, out %d", told(r.List), r.Lines, r.Bad, r.Over, r.Out)
}

// font: small letters, and a hyphen. Its measures are those of sign at the size 1.
func font() api.Font {
	f := api.Font{Design: 10 << 20, First: '-', Chars: slices.Repeat([]api.Metric{{Tag: -1}}, 'z'-'-'+1)}
	f.Chars[0] = api.Metric{W: narrow << 20, H: 4 << 20, D: 1 << 20}
	for i := range 26 {
		f.Chars['a'-'-'+i] = api.Metric{W: wide << 20, H: 4 << 20, D: 1 << 20}
	}
	return f
}

func setup() words.Setup {
	s := words.Setup{Fonts: []api.Font{font()}, Sizes: []int{1}, Hyphen: []int{'-'}, Left: 1, Right: 1, Upper: true}
	for c := byte('a'); c <= 'z'; c++ {
		s.Lower[c] = c
	}
	return s
}

// patterns: of a new Hyph: patterns, and exceptions, which have a hyphen.
func patterns(texts ...string) *hyph.Hyph {
	h := hyph.New()
	for _, text := range texts {
		say := h.Pattern
		if strings.Contains(text, "-") {
			say = h.Except
		}
		if say(text) != api.OK {
			panic("no pattern: " + text)
		}
	}
	return h
}

// params: lines of that width, with the first pass and the second one alike but for hyphens.
func params(hsize, tolerance int) api.Params {
	return api.Params{Pretolerance: tolerance, Tolerance: tolerance, LinePenalty: 10, Hsize: hsize}
}

func with(p api.Params, change func(p *api.Params)) api.Params {
	change(&p)
	return p
}

func changed(s words.Setup, change func(s *words.Setup)) words.Setup {
	change(&s)
	return s
}

// endIs: End answers just that list.
func endIs(t *testing.T, name string, l []api.Node, fill api.Glue, want []api.Node) {
	t.Helper()
	if got, e := paras.End(l, fill); !slices.Equal(got, want) || e != api.OK {
		t.Errorf("End of %s: %.300s, %d; want %.300s", name, told(got), e, told(want))
	}
}

func endIsnt(t *testing.T, name string, l []api.Node, fill api.Glue, want api.Errno) {
	t.Helper()
	if got, e := paras.End(l, fill); len(got) != 0 || e != want {
		t.Errorf("End of %s: %d nodes, %d; want %d alone", name, len(got), e, want)
	}
}

// same: are these alike, where nil and an empty list are?
func same(a, b any) bool {
	x, y := reflect.ValueOf(a), reflect.ValueOf(b)
	for i := range x.NumField() {
		f, g := x.Field(i), y.Field(i)
		if f.Kind() == reflect.Slice && f.Len() == 0 && g.Len() == 0 {
			continue
		}
		if !reflect.DeepEqual(f.Interface(), g.Interface()) {
			return false
		}
	}
	return true
}

// tries: Try answers this pass, these places, and of demerits and looseness this; its List is what is wanted.
func tries(t *testing.T, name string, l []api.Node, p api.Params, h *hyph.Hyph, want paras.Choice) {
	t.Helper()
	if got, e := paras.Try(l, p, setup(), h); !same(got, want) || e != api.OK {
		t.Errorf("Try of %s: %.300s, %d; want %.300s", name, choiceText(got), e, choiceText(want))
	}
}

func triesNone(t *testing.T, name string, l []api.Node, p api.Params, s words.Setup, h *hyph.Hyph, want api.Errno) {
	t.Helper()
	if got, e := paras.Try(l, p, s, h); !same(got, paras.Choice{}) || e != want {
		t.Errorf("Try of %s: %.300s, %d; want %d alone", name, choiceText(got), e, want)
	}
}

// passIs: Try answers this pass, and these places.
func passIs(t *testing.T, name string, l []api.Node, p api.Params, h *hyph.Hyph, pass int, at ...int) {
	t.Helper()
	if got, e := paras.Try(l, p, setup(), h); got.Pass != pass || !slices.Equal(got.At, at) || e != api.OK {
		t.Errorf("Try of %s: pass %d, %v, %d; want %d, %v", name, got.Pass, got.At, e, pass, at)
	}
}

func contentsAre(t *testing.T, name string, l []api.Node, p api.Params, from, to int, want ...[]api.Node) {
	t.Helper()
	if got, e := paras.Contents(l, p, from, to); !slices.Equal(got, join(want...)) || e != api.OK {
		t.Errorf("Contents of %s from %d to %d: %s, %d; want %s", name, from, to, told(got), e, told(join(want...)))
	}
}

func contentsArent(t *testing.T, name string, l []api.Node, p api.Params, from, to int, want api.Errno) {
	t.Helper()
	if got, e := paras.Contents(l, p, from, to); len(got) != 0 || e != want {
		t.Errorf("Contents of %s from %d to %d: %s, %d; want %d alone", name, from, to, told(got), e, want)
	}
}

func linesAre(t *testing.T, name string, l []api.Node, p api.Params, at []int, b paras.Between, want paras.Result) {
	t.Helper()
	if got, e := paras.Lines(l, p, at, b); !same(got, want) || e != api.OK {
		t.Errorf("Lines of %s: %.300s, %d; want %.300s", name, resultText(got), e, resultText(want))
	}
}

func linesArent(t *testing.T, name string, l []api.Node, p api.Params, at []int, b paras.Between, want api.Errno) {
	t.Helper()
	if got, e := paras.Lines(l, p, at, b); !same(got, paras.Result{}) || e != want {
		t.Errorf("Lines of %s: %.300s, %d; want %d alone", name, resultText(got), e, want)
	}
}

// items: those of a list itself, one by one.
func items(l []api.Node) [][]api.Node {
	var all [][]api.Node
	from, opened := 0, 0
	for at, n := range l {
		switch n.Kind {
		case api.HBox, api.VBox, api.Disc, api.Ins, api.Adjust:
			opened++
		case api.End:
			opened--
		}
		if opened == 0 {
			all = append(all, l[from:at+1])
			from = at + 1
		}
	}
	return all
}

// wrongLists: some for each of a list's errors.
func wrongLists() map[api.Errno][][]api.Node {
	return map[api.Errno][][]api.Node{
		api.ErrSize: {repeat(kern(1, 0), api.MaxNodes+1), nested(1001, nil), make([]api.Node, api.MaxNodes+1)},
		api.ErrList: {
			{{}}, {{Kind: api.End}}, {{Kind: api.HBox}}, {{Kind: api.Sep}}, {{Kind: 18}}, kern(most+1, 0), row("a{|}"), row("a{|_|}"), box(1)[1:],
		},
		api.ErrDeep: {nested(41, nil), nested(40, kern(1, 0)), join(row("a_"), nested(41, nil))},
	}
}

// endless: a paragraph that may not be: its Skip shrinks without end.
func endless() []api.Node {
	return join(row("a_"), glued(api.Glue{Shrink: 1, ShrinkOrder: 1}), row("a"))
}

// wrongParams: some for each of the parameters' errors.
func wrongParams() map[api.Errno][]api.Params {
	p := params(20, 100)
	return map[api.Errno][]api.Params{
		api.ErrArg: {
			with(p, func(p *api.Params) { p.Hsize = most + 1 }), with(p, func(p *api.Params) { p.LinePenalty = number + 1 }),
			with(p, func(p *api.Params) { p.Pretolerance = -number - 1 }), with(p, func(p *api.Params) { p.Pretolerance = number + 1 }),
			with(p, func(p *api.Params) { p.Tolerance = -number - 1 }), with(p, func(p *api.Params) { p.Tolerance = number + 1 }),
			with(p, func(p *api.Params) { p.Emergency = most + 1 }), with(p, func(p *api.Params) { p.Emergency = -most - 1 }),
			with(p, func(p *api.Params) { p.Shape = [][2]int{{0, most + 1}} }),
		},
		api.ErrGlue: {
			with(p, func(p *api.Params) { p.Left = api.Glue{Shrink: 1, ShrinkOrder: 1} }), with(p, func(p *api.Params) { p.Right = api.Glue{Nat: most + 1} }),
		},
	}
}

// wrongSetups: none of them is right.
func wrongSetups() []words.Setup {
	return []words.Setup{
		{}, changed(setup(), func(s *words.Setup) { s.Left = 0 }), changed(setup(), func(s *words.Setup) { s.Sizes = []int{0} }),
		changed(setup(), func(s *words.Setup) { s.Hyphen = nil }),
	}
}

// wrongHyphs: nil, one that nobody made, and a copy of a good one.
func wrongHyphs() []*hyph.Hyph {
	h := *patterns("1a")
	return []*hyph.Hyph{nil, {}, &h}
}
