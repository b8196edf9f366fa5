package paras_test

import (
	"testing"

	"galley/api"
	"galley/breaks"
	"galley/pack"
	"galley/paras"
)

// line: a box of so many, whose glue is set, around contents. Letters are 4 high, 1 deep.
func line(w, sign, order, num, den int, contents ...[]api.Node) []api.Node {
	return open(api.Node{Kind: api.HBox, W: w, H: 4, D: 1, Sign: sign, Order: order, Num: num, Den: den}, contents...)
}

func still(w int, contents ...[]api.Node) []api.Node { return line(w, api.Still, 0, 0, 0, contents...) }

// lastLine: with a paragraph's end, so much wider than its words.
func lastLine(w, by int, text string) []api.Node {
	return line(w, api.Stretching, 1, by, 1, para(text), right())
}

func TestP104Boxes(t *testing.T) {
	first := line(24, api.Stretching, 0, 1, 2, row("aa_aa"), right())
	list := join(first, lastLine(24, 1, "aa_aa"))
	linesAre(t, "two lines", two(), params(24, 0), []int{5, 13}, paras.Between{}, paras.Result{List: list, Lines: []int{0, 8}, Bad: []int{12, 0}, Over: []int{0, 0}})
	// Shrinking, and too full.
	list = join(line(22, api.Shrinking, 0, 1, 1, row("aa_aa"), right()), line(22, api.Shrinking, 0, 1, 1, row("aa_aa"), penalty(10000), side(fil(), 15), right()))
	linesAre(t, "two lines", two(), params(22, 0), []int{5, 13}, paras.Between{}, paras.Result{List: list, Lines: []int{0, 8}, Bad: []int{100, 100}, Over: []int{0, 0}})
	list = join(line(9, api.Shrinking, 0, 1, 1, row("aa_aa"), right()), still(9, row("aa"), right()), still(9, para("aa"), right()))
	linesAre(t, "three lines", two(), params(9, 0), []int{5, 8, 13}, paras.Between{}, paras.Result{List: list, Lines: []int{0, 8, 13}, Bad: []int{pack.Over, pack.Over, pack.Over}, Over: []int{13, 1, 1}})
	linesAre(t, "one line", para("aa"), params(10, 0), []int{4}, paras.Between{}, paras.Result{List: still(10, para("aa"), right()), Lines: []int{0}, Bad: []int{0}, Over: []int{0}})
	linesAre(t, "nothing", nil, params(0, 0), []int{0}, paras.Between{}, paras.Result{List: open(api.Node{Kind: api.HBox}, right()), Lines: []int{0}, Bad: []int{0}, Over: []int{0}})
}

// As wide as Width says of each line, and so far to the right; with both sides.
func TestP104Widths(t *testing.T) {
	l := para("aa_aa_aa")
	at := []int{2, 5, 10}
	p := params(10, 0)
	p.Shape = [][2]int{{3, 10}, {-4, 11}}
	list := join(still(10, row("aa"), right()), still(11, row("aa"), right()), lastLine(11, 1, "aa"))
	list[0].Shift, list[5].Shift, list[10].Shift = 3, -4, -4
	want := paras.Result{List: list, Lines: []int{0, 5, 10}, Bad: []int{0, 10000, 0}, Over: []int{0, 0, 0}}
	linesAre(t, "a Shape", l, p, at, paras.Between{}, want)
	p = params(13, 0)
	p.HangIndent, p.HangAfter = 2, 1
	list = join(still(13, row("aa"), right()), still(11, row("aa"), right()), lastLine(11, 1, "aa"))
	list[5].Shift, list[10].Shift = 2, 2
	linesAre(t, "HangAfter", l, p, at, paras.Between{}, paras.Result{List: list, Lines: []int{0, 5, 10}, Bad: []int{10000, 10000, 0}, Over: []int{0, 0, 0}})
	p.HangIndent = -2
	list[5].Shift, list[10].Shift = 0, 0
	linesAre(t, "HangIndent below 0", l, p, at, paras.Between{}, paras.Result{List: list, Lines: []int{0, 5, 10}, Bad: []int{10000, 10000, 0}, Over: []int{0, 0, 0}})
	p = params(15, 0)
	p.Left, p.Right = api.Glue{Nat: 1, Stretch: 1}, api.Glue{Nat: 2, Stretch: 3}
	list = join(line(15, api.Stretching, 0, 2, 4, side(p.Left, 8), row("aa"), side(p.Right, 9)), line(15, api.Stretching, 1, 2, 1, side(p.Left, 8), para("aa"), side(p.Right, 9)))
	linesAre(t, "sides", para("aa_aa"), p, []int{2, 7}, paras.Between{}, paras.Result{List: list, Lines: []int{0, 6}, Bad: []int{12, 0}, Over: []int{0, 0}})
}

// between: the penalties between boxes that Lines answers, 0 where there is none.
func between(t *testing.T, l []api.Node, p api.Params, at []int, b paras.Between) []int {
	t.Helper()
	r, e := paras.Lines(l, p, at, b)
	if e != api.OK || len(r.Lines) != len(at) {
		t.Fatalf("Lines: %s, %d", resultText(r), e)
	}
	var q []int
	for _, item := range items(r.List) {
		switch item[0].Kind {
		case api.HBox:
			q = append(q, 0)
		case api.Penalty:
			if q[len(q)-1] != 0 || item[0] != (api.Node{Kind: api.Penalty, Penalty: item[0].Penalty}) || item[0].Penalty == 0 {
				t.Errorf("%v", item)
			}
			q[len(q)-1] = item[0].Penalty
		}
	}
	return q
}

func penaltiesAre(t *testing.T, name string, l []api.Node, p api.Params, at []int, b paras.Between, want ...int) {
	t.Helper()
	got := between(t, l, p, at, b)
	if len(got) != len(want) {
		t.Fatalf("%s: %v; want %v", name, got, want)
	}
	for i := range want {
		if got[i] != want[i] {
			t.Errorf("%s: %v; want %v", name, got, want)
			return
		}
	}
}

func TestP104Between(t *testing.T) {
	l, p := para("a_a_a_a"), params(5, 0)
	b := paras.Between{Line: 1, Club: 20, Widow: 300, Broken: 4000}
	penaltiesAre(t, "one line", l, p, []int{9}, b, 0)
	penaltiesAre(t, "two lines", l, p, []int{1, 9}, b, 321, 0)
	penaltiesAre(t, "three lines", l, p, []int{1, 3, 9}, b, 21, 301, 0)
	penaltiesAre(t, "four lines", l, p, []int{1, 3, 5, 9}, b, 21, 1, 301, 0)
	h := para("a{-||}a_a{|b|}a_a")
	penaltiesAre(t, "one line with Discs", h, p, []int{len(h)}, b, 0)
	penaltiesAre(t, "a Disc", h, p, []int{1, len(h)}, b, 4321, 0)
	penaltiesAre(t, "two Discs", h, p, []int{1, 9, len(h)}, b, 4021, 4301, 0)
	penaltiesAre(t, "Discs and Skips", h, p, []int{1, 7, 9, 15, len(h)}, b, 4021, 1, 4001, 301, 0)
	penaltiesAre(t, "a Disc ahead of the end", row("a{-||}"), p, []int{1, 6}, b, 4321, 0)
	// Each by itself; a sum of 0 is none.
	penaltiesAre(t, "nothing", h, p, []int{1, 7, 9, 15, len(h)}, paras.Between{}, 0, 0, 0, 0, 0)
	penaltiesAre(t, "Line", h, p, []int{1, 7, 9, 15, len(h)}, paras.Between{Line: -5}, -5, -5, -5, -5, 0)
	penaltiesAre(t, "Club", h, p, []int{1, 7, 9, 15, len(h)}, paras.Between{Club: 10000}, 10000, 0, 0, 0, 0)
	penaltiesAre(t, "Widow", h, p, []int{1, 7, 9, 15, len(h)}, paras.Between{Widow: -10000}, 0, 0, 0, -10000, 0)
	penaltiesAre(t, "Broken", h, p, []int{1, 7, 9, 15, len(h)}, paras.Between{Broken: 7}, 7, 0, 7, 0, 0)
	penaltiesAre(t, "a sum of 0", h, p, []int{1, 7, 9, 15, len(h)}, paras.Between{Line: 5, Club: -12, Broken: 7, Widow: -5}, 0, 5, 12, 0, 0)
}

// Sums that would be farther from 0 than a penalty may be.
func TestP104Far(t *testing.T) {
	h, p := para("a{-||}a_a{|b|}a_a"), params(5, 0)
	at := []int{1, 7, 9, 15, len(h)}
	for _, sign := range []int{1, -1} {
		m := sign * number
		penaltiesAre(t, "Line", h, p, at, paras.Between{Line: m}, m, m, m, m, 0)
		penaltiesAre(t, "Line and one more", h, p, at, paras.Between{Line: m, Club: sign, Widow: sign, Broken: sign}, m, m, m, m, 0)
		penaltiesAre(t, "Line and one less", h, p, at, paras.Between{Line: m, Club: -sign, Widow: -sign, Broken: -sign}, m-2*sign, m, m-sign, m-sign, 0)
		penaltiesAre(t, "all", h, p, []int{1, len(h)}, paras.Between{Line: m, Club: m, Widow: m, Broken: m}, m, 0)
		// The sum is bounded, not what it is made of.
		penaltiesAre(t, "to and fro", h, p, []int{1, len(h)}, paras.Between{Line: m, Club: m, Widow: -m, Broken: -m + sign}, sign, 0)
		penaltiesAre(t, "to and fro", h, p, []int{1, len(h)}, paras.Between{Line: m, Club: m, Widow: -m, Broken: -m}, 0, 0)
		for i := range 4 {
			one := [4]int{}
			one[i] = m
			if _, e := paras.Lines(h, p, at, paras.Between{Line: one[0], Club: one[1], Widow: one[2], Broken: one[3]}); e != api.OK {
				t.Errorf("%v: %d", one, e)
			}
			one[i] = m + sign
			wrong := paras.Between{Line: one[0], Club: one[1], Widow: one[2], Broken: one[3]}
			linesArent(t, "a penalty that is none", h, p, at, wrong, api.ErrRange)
			linesArent(t, "a penalty that is none, in one line", h, p, []int{len(h)}, wrong, api.ErrRange)
			linesArent(t, "a penalty that is none, ahead of parameters", h, with(p, func(p *api.Params) { p.Hsize = most + 1 }), at, wrong, api.ErrRange)
			linesArent(t, "a penalty that is none, ahead of a list", row("}"), p, at, wrong, api.ErrRange)
			linesArent(t, "a penalty that is none, ahead of places", h, p, nil, wrong, api.ErrRange)
		}
	}
}

// What leaves a line stands behind its box, ahead of the penalty.
func TestP104Out(t *testing.T) {
	within := join(box(3, row("a_"), mark("n")), row("_"), penalty(3))
	l := join(row("a"), mark("m"), row("_a"), insert(row("b_")), adjust(within), row("_"), finished(join(mark("o"), row("a"))))
	p := params(5, 0)
	at := []int{2, 3 + 1 + len(insert(row("b_"))) + len(adjust(within)), len(l)}
	list := join(still(5, row("a"), right()), mark("m"), penalty(8), still(5, row("a"), right()), insert(row("b_")), within, penalty(107), line(5, 0, 0, 0, 0, para("a"), right()), mark("o"))
	want := paras.Result{List: list, Lines: []int{0, 6, len(list) - 7}, Bad: []int{0, 0, 0}, Over: []int{0, 0, 0}, Out: 6}
	linesAre(t, "what leaves it", l, p, at, paras.Between{Line: 7, Club: 1, Widow: 100}, want)
	// What falls away is left away; what does not, amid it, leaves the line.
	l = join(row("a_"), penalty(5), mark("m"), row("_a"))
	list = join(still(5, row("a"), right()), line(8, 0, 0, 0, 0, row("_a"), right()), mark("m"))
	p.Shape = [][2]int{{0, 5}, {0, 8}}
	linesAre(t, "a Mark behind a break", l, p, []int{1, len(l)}, paras.Between{}, paras.Result{List: list, Lines: []int{0, 4}, Bad: []int{0, 0}, Over: []int{0, 0}, Out: 1})
	// In boxes they stay, and an Adjust may be empty.
	l = join(box(5, mark("m"), insert()), adjust(), mark("n"), mark("o"))
	linesAre(t, "a box", l, params(5, 0), []int{len(l)}, paras.Between{}, paras.Result{
		List: join(open(api.Node{Kind: api.HBox, W: 5, H: 5, D: 5}, box(5, mark("m"), insert()), right()), mark("n"), mark("o")), Lines: []int{0}, Bad: []int{0}, Over: []int{0}, Out: 2,
	})
}

func TestP104None(t *testing.T) {
	l := join(row("a_a"), penalty(-10000), row("a_a{-||}a"))
	end := len(l)
	p := params(9, 0)
	for _, at := range [][]int{
		nil, {}, {3}, {1, 3}, {end}, {1, end}, {3, 3, end}, {3, end, end}, {end, 3}, {1, 3, 5}, {0, 3, end}, {-1, 3, end}, {3, 4, end}, {3, 8, end}, {3, end + 1}, {5, 3, end}, {3, 1, end}, {3, end - 1, end}, {-number, number},
	} {
		linesArent(t, "places that are none", l, p, at, paras.Between{}, api.ErrNone)
	}
	for _, at := range [][]int{{3, end}, {1, 3, end}, {1, 3, 5, 7, end}} {
		if _, e := paras.Lines(l, p, at, paras.Between{}); e != api.OK {
			t.Errorf("%v: %d", at, e)
		}
	}
	linesArent(t, "nothing", nil, p, nil, paras.Between{}, api.ErrNone)
	linesArent(t, "a Disc that is no break", l, with(p, func(p *api.Params) { p.HyphenPenalty = 10000 }), []int{3, 7, end}, paras.Between{}, api.ErrNone)
}

func TestP104Errors(t *testing.T) {
	for e, all := range wrongParams() {
		for _, p := range all {
			linesArent(t, "parameters", two(), p, []int{13}, paras.Between{}, e)
			linesArent(t, "parameters ahead of a list", row("}"), p, []int{13}, paras.Between{}, e)
			linesArent(t, "parameters ahead of places", endless(), p, nil, paras.Between{}, e)
		}
	}
	for e, lists := range wrongLists() {
		for _, l := range lists {
			linesArent(t, "a list", l, params(9, 0), []int{len(l)}, paras.Between{}, e)
			linesArent(t, "a list ahead of places", l, params(9, 0), nil, paras.Between{}, e)
		}
	}
	linesArent(t, "a paragraph", endless(), params(9, 0), []int{4}, paras.Between{}, api.ErrGlue)
	linesArent(t, "a paragraph ahead of places", endless(), params(9, 0), nil, paras.Between{}, api.ErrGlue)
	// A tolerance is nothing that lines hang on.
	for _, n := range []int{-1, -number, number} {
		if _, e := paras.Lines(two(), with(params(9, n), func(p *api.Params) { p.Looseness = n }), []int{13}, paras.Between{}); e != api.OK {
			t.Errorf("tolerance %d: %d", n, e)
		}
	}
}

// The first line that can't be packed counts.
func TestP104Packed(t *testing.T) {
	p := params(9, 0)
	wide := join(kern(most, 0), kern(1, 0))
	deep := nested(40, nil)
	linesArent(t, "a line that is too wide", join(row("a_a"), wide), p, []int{1, 5}, paras.Between{}, api.ErrArith)
	linesArent(t, "a line that is too deep", join(row("a_a"), deep), p, []int{1, 83}, paras.Between{}, api.ErrDeep)
	linesArent(t, "too wide, then too deep", join(row("a"), wide, row("a_"), deep), p, []int{4, 85}, paras.Between{}, api.ErrArith)
	linesArent(t, "too deep, then too wide", join(deep, row("_a"), wide), p, []int{80, 84}, paras.Between{}, api.ErrDeep)
	// A width that is no dimension.
	p = params(-most, 0)
	p.HangIndent, p.HangAfter = 1, 1
	linesArent(t, "a width that is none", para("a_a"), p, []int{1, 5}, paras.Between{}, api.ErrRange)
	if _, e := paras.Lines(para("a_a"), p, []int{5}, paras.Between{}); e != api.OK {
		t.Errorf("a width that is none, of another line: %d", e)
	}
	linesArent(t, "a width that is none, then too deep", join(row("a_a_"), deep), p, []int{1, 3, 84}, paras.Between{}, api.ErrRange)
	linesArent(t, "too deep, then a width that is none", join(deep, row("_a_a")), p, []int{80, 82, 84}, paras.Between{}, api.ErrDeep)
	linesArent(t, "a list too long, and a width that is none", repeat(row("a"), 2000), with(p, func(p *api.Params) { p.HangAfter = 0 }), []int{2000}, paras.Between{}, api.ErrSize)
	// A line as long as may be in a box.
	l := repeat(row("a"), 1998)
	linesArent(t, "a line too long", l, p, []int{1998}, paras.Between{}, api.ErrSize)
	if r, e := paras.Lines(l[:1997], params(9, 0), []int{1997}, paras.Between{}); e != api.OK || len(r.List) != 2000 {
		t.Errorf("a line as long as may be: %d nodes, %d", len(r.List), e)
	}
}

// forced: a paragraph of so many lines, a letter each.
func forced(lines int) (l []api.Node, at []int) {
	for i := range lines {
		if i > 0 {
			at = append(at, len(l))
			l = append(l, penalty(-10000)...)
		}
		l = append(l, row("a")...)
	}
	return l, append(at, len(l))
}

func TestP104Size(t *testing.T) {
	p := params(5, 0)
	behind := func(l []api.Node, at []int, more []api.Node) ([]api.Node, []int) {
		l = join(l, more)
		at[len(at)-1] = len(l)
		return l, at
	}
	for _, w := range []struct {
		lines int
		b     paras.Between
		room  int
	}{{500, paras.Between{}, 0}, {499, paras.Between{}, 4}, {400, paras.Between{Line: 1}, 1}, {499, paras.Between{Club: 1, Widow: 1}, 2}, {500, paras.Between{Broken: 1}, 0}, {400, paras.Between{Line: 1, Club: -1, Widow: -1}, 3}} {
		for _, more := range [][]api.Node{row("aaaaa"), repeat(mark("m"), 5)} {
			l, at := forced(w.lines)
			l, at = behind(l, at, more[:w.room])
			if r, e := paras.Lines(l, p, at, w.b); e != api.OK || len(r.List) != 2000 || len(r.Lines) != w.lines {
				t.Errorf("%d lines and %d more: %d nodes, %d", w.lines, w.room, len(r.List), e)
			}
			l, at = forced(w.lines)
			l, at = behind(l, at, more[:w.room+1])
			linesArent(t, "too many lines", l, p, at, w.b, api.ErrSize)
		}
	}
	// A line that can't be packed counts ahead of that.
	l, at := forced(600)
	l, at = behind(l, at, nested(40, nil))
	linesArent(t, "too many lines, and one too deep", l, p, at, paras.Between{}, api.ErrDeep)
	l, at = forced(501)
	linesArent(t, "too many lines", l, p, at, paras.Between{}, api.ErrSize)
}

func TestP104Random(t *testing.T) {
	r := &random{104}
	found, failed, left := 0, 0, 0
	for range 3000 {
		l, p, b := r.paragraph(10), r.params(), r.between()
		at := r.places(l, p)
		if r.chance(20) && len(at) > 1 {
			at = at[1:]
		}
		if r.chance(30) {
			b.Widow = number + 1
		}
		got, e := paras.Lines(l, p, at, b)
		want, e2 := plainLines(l, p, at, b)
		if !same(got, want) || e != e2 {
			t.Fatalf("Lines of %s, %v at %v, %v: %s, %d; want %s, %d", told(l), p, at, b, resultText(got), e, resultText(want), e2)
		}
		if e == api.OK {
			found, left = found+1, left+got.Out
		} else {
			failed++
		}
	}
	if found < 1500 || failed < 100 || left < 250 {
		t.Errorf("only %d found, %d errors, %d items left", found, failed, left)
	}
}

// The places that Cost takes are those that Lines takes.
func TestP104Places(t *testing.T) {
	r := &random{1040}
	for range 3000 {
		l, p := r.paragraph(5), api.Params{Hsize: 30}
		at := r.places(l, p)
		if len(at) > 1 && r.chance(2) {
			at[r.below(len(at))] += r.from(-1, 1)
		}
		_, e := breaks.Cost(l, p, 0, 0, at)
		_, e2 := paras.Lines(l, p, at, paras.Between{})
		if (e == api.OK) != (e2 == api.OK) && e2 != api.ErrArith || e != api.OK && e != e2 {
			t.Errorf("%s at %v: %d, %d", told(l), at, e, e2)
		}
	}
}
