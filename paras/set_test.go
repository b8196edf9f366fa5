package paras_test

import (
	"testing"

	"galley/api"
	"galley/hyph"
	"galley/paras"
	"galley/words"
)

// setting: what is handed to Set.
type setting struct {
	l    []api.Node
	fill api.Glue
	p    api.Params
	b    paras.Between
	s    words.Setup
	h    *hyph.Hyph
}

func (x setting) set() (paras.Choice, paras.Result, api.Errno) {
	return paras.Set(x.l, x.fill, x.p, x.b, x.s, x.h)
}

// good: one that can be set.
func good(text string, p api.Params) setting {
	return setting{row(text), fil(), p, paras.Between{Line: 1, Broken: 50}, setup(), patterns("a-bbb")}
}

func setIs(t *testing.T, name string, x setting, c paras.Choice, r paras.Result) {
	t.Helper()
	gotC, gotR, e := x.set()
	if !same(gotC, c) || !same(gotR, r) || e != api.OK {
		t.Errorf("Set of %s: %s; %s, %d; want %s; %s", name, choiceText(gotC), resultText(gotR), e, choiceText(c), resultText(r))
	}
}

func setIsnt(t *testing.T, name string, x setting, want api.Errno) {
	t.Helper()
	c, r, e := x.set()
	if !same(c, paras.Choice{}) || !same(r, paras.Result{}) || e != want {
		t.Errorf("Set of %s: %.300s; %.300s, %d; want %d alone", name, choiceText(c), resultText(r), e, want)
	}
}

func TestP105Set(t *testing.T) {
	// In the first pass; the last Skip of the list is not its end.
	first := line(24, api.Stretching, 0, 1, 2, row("aa_aa"), right())
	list := join(first, penalty(1), lastLine(24, 1, "aa_aa"))
	for _, text := range []string{"aa_aa_aa_aa", "aa_aa_aa_aa_"} {
		setIs(t, "two lines", good(text, params(24, 12)), paras.Choice{List: two(), Pass: 1, At: []int{5, 13}, Demerits: 22*22 + 100},
			paras.Result{List: list, Lines: []int{0, 9}, Bad: []int{12, 0}, Over: []int{0, 0}})
	}
	// In the second one: the lines are of the list with hyphens.
	x := good("aaa_abbb", params(24, 10))
	hyphened := para("aaa_a{-||}bbb")
	list = join(still(24, row("aaa_a-"), right()), penalty(51), lastLine(24, 9, "bbb"))
	c, r := paras.Choice{List: hyphened, Pass: 2, At: []int{5, 15}, Demerits: 200}, paras.Result{List: list, Lines: []int{0, 10}, Bad: []int{0, 0}, Over: []int{0, 0}}
	setIs(t, "a hyphen", x, c, r)
	// In the third one: its stretch is not that of the lines.
	x.p = with(params(25, 10), func(p *api.Params) { p.Emergency = 1 })
	list = join(line(25, api.Stretching, 0, 1, 2, row("aaa_a-"), right()), penalty(51), lastLine(25, 10, "bbb"))
	c.Pass, c.Demerits = 3, 14*14+100
	setIs(t, "a hyphen", x, c, paras.Result{List: list, Lines: []int{0, 10}, Bad: []int{12, 0}, Over: []int{0, 0}})
	// Another glue at the end.
	x = good("aa", params(12, 100))
	x.fill = api.Glue{Nat: 1, Stretch: 1}
	end := join(row("aa"), penalty(10000), side(x.fill, 15))
	setIs(t, "another glue", x, paras.Choice{List: end, Pass: 1, At: []int{4}, Demerits: 110 * 110}, paras.Result{List: line(12, api.Stretching, 0, 1, 1, end, right()), Lines: []int{0}, Bad: []int{100}, Over: []int{0}})
	setIs(t, "nothing", good("", params(0, 0)), paras.Choice{List: para(""), Pass: 1, At: []int{2}, Demerits: 100},
		paras.Result{List: open(api.Node{Kind: api.HBox}, para(""), right()), Lines: []int{0}, Bad: []int{0}, Over: []int{0}})
}

func TestP105Loose(t *testing.T) {
	p := with(params(13, 10000), func(p *api.Params) { p.Right = fil() })
	for wish, at := range map[int][]int{-1: {3, 9}, 0: {3, 9}, 1: {1, 3, 9}, 2: {1, 3, 5, 9}} {
		x := good("a_a_a_a", with(p, func(p *api.Params) { p.Looseness = wish }))
		c, r, e := x.set()
		if e != api.OK || c.Loose != max(wish, 0) || len(c.At) != len(at) || len(r.Lines) != len(at) {
			t.Errorf("%d: %s; %s, %d", wish, choiceText(c), resultText(r), e)
		}
	}
}

// An error of each of the parts, and that of the first one of two.
func TestP105Errors(t *testing.T) {
	wrongFill := func(x *setting) { x.fill.StretchOrder = 4 }
	noList := func(x *setting) { x.l = row("}") }
	wrongParams := func(x *setting) { x.p.Hsize = most + 1 }
	noHyph := func(x *setting) { x.h = nil }
	wrongSetup := func(x *setting) { x.s.Left = 0 }
	tolerance := func(x *setting) { x.p.Pretolerance, x.p.Tolerance = -1, -1 }
	endlessFill := func(x *setting) { x.fill = api.Glue{Shrink: 1, ShrinkOrder: 1} }
	between := func(x *setting) { x.b.Club = number + 1 }
	deep := func(x *setting) { x.l = nested(40, nil) }
	long := func(x *setting) { x.l = repeat(row("a"), 1999) }
	full := func(x *setting) { x.l = repeat(row("a"), 1998) }
	for _, w := range []struct {
		name   string
		change []func(x *setting)
		want   api.Errno
	}{
		{"no list", []func(x *setting){noList}, api.ErrList},
		{"no list, no fill", []func(x *setting){noList, wrongFill}, api.ErrList},
		{"no fill", []func(x *setting){wrongFill}, api.ErrGlue},
		{"no fill, wrong parameters", []func(x *setting){wrongFill, wrongParams}, api.ErrGlue},
		{"too long", []func(x *setting){long}, api.ErrSize},
		{"too long, wrong parameters", []func(x *setting){long, wrongParams}, api.ErrSize},
		{"wrong parameters", []func(x *setting){wrongParams}, api.ErrArg},
		{"wrong parameters, no penalty", []func(x *setting){wrongParams, between}, api.ErrArg},
		{"a fill that shrinks without end", []func(x *setting){endlessFill}, api.ErrGlue},
		{"a fill that shrinks without end, no Hyph", []func(x *setting){endlessFill, noHyph}, api.ErrGlue},
		{"no Hyph", []func(x *setting){noHyph}, api.ErrArg},
		{"no Hyph, no tolerance", []func(x *setting){noHyph, tolerance}, api.ErrArg},
		{"no setup", []func(x *setting){wrongSetup}, api.ErrArg},
		{"no tolerance", []func(x *setting){tolerance}, api.ErrRange},
		{"no Hyph, no penalty", []func(x *setting){noHyph, between}, api.ErrArg},
		{"no penalty", []func(x *setting){between}, api.ErrRange},
		{"no penalty, a line too deep", []func(x *setting){between, deep}, api.ErrRange},
		{"a line too deep", []func(x *setting){deep}, api.ErrDeep},
		{"a line too long", []func(x *setting){full}, api.ErrSize},
	} {
		x := good("aa_aa", params(9, 100))
		for _, change := range w.change {
			change(&x)
		}
		setIsnt(t, w.name, x, w.want)
	}
	for e, lists := range wrongLists() {
		for _, l := range lists {
			x := good("", params(9, 100))
			x.l = l
			setIsnt(t, "no list", x, e)
		}
	}
}

// random: a paragraph, and all that it is set with.
func (r *random) setting(most int) setting {
	x := setting{r.paragraph(most), fil(), r.params(), r.between(), r.setup(), r.hyph()}
	if r.chance(3) {
		x.fill = r.glue()
	}
	return x
}

func TestP105Random(t *testing.T) {
	r := &random{105}
	found, failed := 0, 0
	for range 3000 {
		x := r.setting(10)
		if r.chance(20) {
			x.fill.StretchOrder = 4
		}
		if r.chance(20) {
			x.b.Line = number + 1
		}
		c, res, e := x.set()
		wantC, wantR, want := plainSet(x.l, x.fill, x.p, x.b, x.s, x.h)
		if !same(c, wantC) || !same(res, wantR) || e != want {
			t.Fatalf("Set of %s, %v: %s; %s, %d; want %s; %s, %d", told(x.l), x.p, choiceText(c), resultText(res), e, choiceText(wantC), resultText(wantR), want)
		}
		if e == api.OK {
			found++
		} else {
			failed++
		}
	}
	if min(found, failed) < 300 {
		t.Errorf("%d found, %d errors", found, failed)
	}
}
