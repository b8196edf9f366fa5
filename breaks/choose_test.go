package breaks_test

import (
	"slices"
	"testing"

	"galley/api"
)

func TestP907Examples(t *testing.T) {
	p := params(65 * pt)
	chooses(t, "W", four(), p, 100, false, 0, 5, 11)
	got := choose(four(), p, 100, 0, false)
	if want := []line{{At: 5, Class: 2, Demerits: 100}, {At: 11, Class: 2, Demerits: 100}}; !slices.Equal(got.chosen, want) {
		t.Errorf("Choose of W: %v; want %v", got, want)
	}
	p.Hsize = 64 * pt
	got = choose(four(), p, 100, 0, false)
	if want := []line{{At: 5, Badness: 100, Class: 3, Demerits: 12100}, {At: 11, Badness: 100, Class: 3, Demerits: 12100}}; !slices.Equal(got.chosen, want) {
		t.Errorf("Choose of W: %v; want %v", got, want)
	}
	p.Hsize = 20 * pt
	choosesNone(t, "W", four(), p, 100, 0, false, api.ErrBreak)
	chooses(t, "W", four(), p, 100, true, 0, 2, 5, 8, 11)
}

func TestP907Empty(t *testing.T) {
	for _, l := range [][]api.Node{nil, {}} {
		for _, last := range []bool{false, true} {
			chooses(t, "nothing", l, params(0), 0, last, 0, 0)
			for _, n := range []int{1, -1, number, -number} {
				chooses(t, "nothing", l, with(params(0), func(p *api.Params) { p.Looseness = n }), 0, last, 0, 0)
			}
		}
		choosesNone(t, "nothing", l, params(-1), most, 0, false, api.ErrBreak)
		chooses(t, "nothing", l, params(-1), most, true, 0, 0)
	}
}

// ragged: lines may be of any length up to Hsize.
func ragged(hsize int) api.Params {
	return with(params(hsize), func(p *api.Params) { p.Right = api.Glue{Stretch: 1, StretchOrder: 1} })
}

// chars: so many, of a width each, and a Penalty between each two. (So the n-th is at 2 n - 1.)
func chars(n, w, q int) []api.Node {
	l := slices.Repeat(join(char(w), penalty(q)), n)
	return l[:2*n-1]
}

func TestP907Last(t *testing.T) {
	// A tolerance that no list keeps.
	l := join(char(4), skip(2, 1, 1), char(4), skip(2, 1, 1), char(4))
	p := params(11)
	choosesNone(t, "too loose", l, p, 100, 0, false, api.ErrBreak)
	chooses(t, "too loose", l, p, 10000, false, 0, 1, 5)
	// Two ways of a good line and a Bad one: the demerits of the good one.
	chooses(t, "too loose", l, p, 100, true, 0, 1, 5)
	// With a break that forbids the first of them.
	l[1] = glued(api.Glue{Nat: 4, Stretch: 1})[0]
	chooses(t, "too loose", l, p, 100, true, 0, 1, 5)
	l[1], l[3] = l[3], l[1]
	chooses(t, "too loose", l, p, 100, true, 0, 3, 5)
}

// Being too full weighs most, then Bad lines, then demerits.
func TestP907Worse(t *testing.T) {
	// A line of 12 would be one Bad line; of 4, 4 and 4 all three are, but none is too full.
	l := join(char(4), penalty(0), char(4), penalty(0), char(4))
	chooses(t, "too full or too loose", l, params(11), 100, true, 0, 1, 5)
	chooses(t, "too full or too loose", l, params(7), 100, true, 0, 1, 3, 5)
	// All of them too full: as little as may be, which is in as many lines as may be.
	chooses(t, "too full", l, params(3), 100, true, 0, 1, 3, 5)
	// As much in one line as in three, where there is less to be lost at the breaks: the fewest Bad lines.
	chooses(t, "too full by nothing less", l, params(0), 100, true, 0, 5)
	// Of as many Bad lines those with the least demerits, of which Bad ones have none.
	l = join(char(9), penalty(1), kern(5, 0), char(4), penalty(0), char(4), penalty(7), char(4))
	chooses(t, "a line that is too full", l, params(4), 100, true, 0, 1, 4, 6, 8)
	l = join(char(4), penalty(30), char(4), penalty(20), char(4), penalty(10), char(4), penalty(10000))
	chooses(t, "a Bad line more or less", l, params(8), 100, true, 0, 3, 8)
	chooses(t, "one Bad line, which has no demerits", l[:5], params(8), 100, true, 0, 1, 5)
	l[3].Penalty = -5
	chooses(t, "one Bad line behind a welcome break", l[:5], params(8), 100, true, 0, 3, 5)
	// With last true a list without Bad lines goes ahead of all.
	l = chars(3, 4, 9999)
	chooses(t, "a dear list", l, params(4), 100, true, 0, 1, 3, 5)
	chooses(t, "a dear list", l, params(4), 100, false, 0, 1, 3, 5)
}

func TestP907Forced(t *testing.T) {
	for _, q := range []int{-10000, -10001, -number} {
		l := chars(4, 1, 0)
		l[3].Penalty = q
		chooses(t, "a forced break", l, ragged(9), 0, false, 0, 3, 7)
		chooses(t, "a forced break, narrow", l, ragged(1), 0, false, 0, 1, 3, 5, 7)
		l[5].Penalty = q
		chooses(t, "two forced breaks", l, ragged(9), 0, false, 0, 3, 5, 7)
		choosesNone(t, "two forced breaks, too narrow", l, ragged(0), most, 0, false, api.ErrBreak)
		chooses(t, "two forced breaks, too narrow", l, ragged(0), most, true, 0, 3, 5, 7)
	}
	// A break that is not forced, however welcome, may be passed by.
	l := chars(4, 1, 0)
	l[3].Penalty = -9999
	chooses(t, "a welcome break", l, ragged(9), 0, false, 0, 3, 7)
	l[5].Penalty = -9999
	chooses(t, "two welcome breaks", l, ragged(9), 0, false, 0, 3, 5, 7)
	chooses(t, "two welcome breaks, but dear lines", l, with(ragged(9), func(p *api.Params) { p.LinePenalty = 9998 }), 0, false, 0, 3, 5, 7)
	chooses(t, "breaks as welcome as lines are dear", l, with(ragged(9), func(p *api.Params) { p.LinePenalty = 9999 }), 0, false, 0, 7)
	chooses(t, "two welcome breaks, but dearer lines", l, with(ragged(9), func(p *api.Params) { p.LinePenalty = 10000 }), 0, false, 0, 7)
}

// Of lists that are equally good the one that is earlier, from the end on.
func TestP907Ties(t *testing.T) {
	l := chars(3, 1, 0)
	chooses(t, "three in two lines", l, ragged(2), 0, false, 0, 1, 5)
	free := with(ragged(2), func(p *api.Params) { p.LinePenalty = 0 })
	// The beginning is the earliest break, so that of lines that cost nothing there are as few as may be behind it.
	chooses(t, "three", l, free, 0, false, 0, 1, 5)
	chooses(t, "four", chars(4, 1, 0), free, 0, false, 0, 3, 7)
	chooses(t, "five", chars(5, 1, 0), free, 0, false, 0, 1, 5, 9)
	free.Hsize = 9
	chooses(t, "five in one", chars(5, 1, 0), free, 0, false, 0, 9)
	free.Hsize = 3
	chooses(t, "seven", chars(7, 1, 0), free, 0, false, 0, 1, 7, 13)
	// Bad ones as well.
	chooses(t, "three, too wide", chars(3, 1, 0), params(0), most, true, 0, 5)
	chooses(t, "three, too loose", chars(3, 1, 0), params(2), 0, true, 0, 1, 5)
	// A break of 5 is as dear as two of 3 and 4: it is the last one that counts, though the first one be later.
	l = join(char(1), penalty(3), char(1), penalty(5), char(1), penalty(4), char(1))
	chooses(t, "one break or two", l, with(ragged(2), func(p *api.Params) { p.LinePenalty = 0 }), 0, false, 0, 3, 7)
}

// The class of a line weighs in what comes behind it: the best way to a break need not lead on.
func TestP907Classes(t *testing.T) {
	p := with(params(1000), func(p *api.Params) { p.LinePenalty, p.Right = 0, api.Glue{Stretch: 297, Shrink: 297} })
	// To the Penalty at 9 there are two ways: behind 3 a decent line, behind 6 a loose one; and a tight line comes next.
	l := join(skip(0, 100000, 0), box(500), penalty(100), box(160), penalty(0), box(840), penalty(0), box(1149))
	chooses(t, "classes", l, p, 100, false, 0, 6, 9, 12)
	p.AdjDemerits = 9000
	chooses(t, "classes", l, p, 100, false, 0, 6, 9, 12)
	p.AdjDemerits = 10000
	chooses(t, "classes", l, p, 100, false, 0, 3, 9, 12)
	// Without the tight line it is the loose one again.
	l[10].W = 1000
	chooses(t, "classes", l, p, 100, false, 0, 6, 9, 12)
	// What is welcome draws.
	p.AdjDemerits = -10000
	l[10].W, l[3].Penalty, l[6].Penalty = 1149, 0, 90
	chooses(t, "classes", l, p, 100, false, 0, 6, 9, 12)
	l[10].W = 1000
	chooses(t, "classes", l, p, 100, false, 0, 3, 9, 12)
}

func TestP907ClassesRandom(t *testing.T) {
	r := &random{9071}
	unlike := 0
	for range 3000 {
		l, p := r.paragraph(18, 8), r.params()
		p.AdjDemerits = 0
		a := choose(l, p, 10000, 3, true)
		p.AdjDemerits = r.of(10000, 100000, -10000)
		b := choose(l, p, 10000, 3, true)
		if want := plainChoose(l, p, 10000, 3, true); !b.same(want) {
			t.Fatalf("Choose of %v, %v: %v; want %v", l, p, b, want)
		}
		if !slices.Equal(a.at(), b.at()) {
			unlike++
		}
	}
	if unlike < 50 {
		t.Errorf("only %d hang on classes", unlike)
	}
}

// Lines of a width each.
func TestP907Widths(t *testing.T) {
	p := params(0)
	l := chars(10, 1, 0)
	for _, shape := range [][]int{{1, 2, 3, 4}, {4, 3, 2, 1}, {2, 6, 2}, {1, 1, 1, 3, 4}, {10}, {1, 3}, {7, 1}, {2}} {
		p.Shape = nil
		var at []int
		left := 10
		for i := 0; left > 0; i++ {
			w := shape[min(i, len(shape)-1)]
			if i < len(shape) {
				p.Shape = append(p.Shape, [2]int{99, w})
			}
			left -= w
			at = append(at, 2*(10-left)-1)
		}
		chooses(t, "a Shape", l, p, 0, false, 0, at...)
	}
	p = with(params(4), func(p *api.Params) { p.HangIndent, p.HangAfter = 1, 1 })
	chooses(t, "hanging", l, p, 0, false, 0, 7, 13, 19)
	p = with(params(3), func(p *api.Params) { p.HangIndent, p.HangAfter = -1, -2 })
	chooses(t, "hanging", l, p, 0, false, 0, 3, 7, 13, 19)
	// A Shape as long as may be, and one longer than the paragraph has breaks.
	p = with(params(0), func(p *api.Params) { p.Shape = slices.Repeat([][2]int{{0, 1}}, 2000) })
	chooses(t, "a long Shape", l, p, 0, false, 0, 1, 3, 5, 7, 9, 11, 13, 15, 17, 19)
	p.Shape[1999][1], p.Shape[10][1] = 9, 9
	chooses(t, "a long Shape", l, p, 0, false, 0, 1, 3, 5, 7, 9, 11, 13, 15, 17, 19)
	p.Shape[9][1] = 5
	choosesNone(t, "a long Shape", l, p, 0, 0, false, api.ErrBreak)
}

func TestP907Looseness(t *testing.T) {
	six := chars(6, 1, 0)
	for _, x := range [][3]int{ // Looseness, lines, loose
		{0, 2, 0}, {1, 3, 1}, {2, 4, 2}, {4, 6, 4}, {5, 6, 4}, {99, 6, 4}, {number, 6, 4}, {-1, 2, 0}, {-2, 2, 0}, {-number, 2, 0},
	} {
		p := with(ragged(3), func(p *api.Params) { p.Looseness = x[0] })
		for _, last := range []bool{false, true} {
			got := choose(six, p, 0, 0, last)
			if got.e != api.OK || len(got.chosen) != x[1] || got.loose != x[2] {
				t.Errorf("Looseness %d: %v; want %d lines, %d", x[0], got, x[1], x[2])
			}
		}
	}
	// Of those with that number the best, and of equally good ones the earliest.
	chooses(t, "a line more", six, with(ragged(3), func(p *api.Params) { p.Looseness = 1 }), 0, false, 1, 1, 5, 11)
	six[5].Penalty = -3
	chooses(t, "a line more", six, with(ragged(3), func(p *api.Params) { p.Looseness = 1 }), 0, false, 1, 1, 5, 11)
	six[3].Penalty = -3
	chooses(t, "a line more", six, with(ragged(3), func(p *api.Params) { p.Looseness = 2 }), 0, false, 2, 1, 3, 5, 11)
	// Fewer lines than the best has.
	p := with(ragged(6), func(p *api.Params) { p.LinePenalty = 0 })
	l := chars(6, 1, -1)
	chooses(t, "six lines", l, p, 0, false, 0, 1, 3, 5, 7, 9, 11)
	p.Looseness = -1
	chooses(t, "a line less", l, p, 0, false, -1, 1, 3, 5, 7, 11)
	p.Looseness = -5
	chooses(t, "five lines less", l, p, 0, false, -5, 11)
	p.Looseness = -6
	chooses(t, "six lines less", l, p, 0, false, -5, 11)
	p.Looseness = 1
	chooses(t, "a line more", l, p, 0, false, 0, 1, 3, 5, 7, 9, 11)
	choosesNone(t, "none", l, with(p, func(p *api.Params) { p.Hsize = 0 }), 0, 0, false, api.ErrBreak)
}

// gapped: there are lists of 2 lines and of 4, but none of 3: the third line is as wide as nothing.
func gapped(q int) ([]api.Node, api.Params) {
	l := join(char(1), penalty(0), char(1), penalty(0), char(1), penalty(q), penalty(q), char(1))
	return l, with(ragged(0), func(p *api.Params) { p.Shape = [][2]int{{0, 2}, {0, 2}, {0, 0}, {0, 2}} })
}

func TestP907Gap(t *testing.T) {
	set := func(p api.Params, n int) api.Params { return with(p, func(p *api.Params) { p.Looseness = n }) }
	l, p := gapped(0)
	for _, last := range []bool{false, true} {
		for _, n := range []int{0, 1, -1, -number} {
			chooses(t, "two or four lines", l, set(p, n), 0, last, 0, 3, 8)
		}
		for _, n := range []int{2, 3, number} {
			chooses(t, "two or four lines", l, set(p, n), 0, last, 2, 1, 5, 6, 8)
		}
	}
	l, p = gapped(-50)
	for _, last := range []bool{false, true} {
		for _, n := range []int{0, 1, -1, number} {
			chooses(t, "four lines or two", l, set(p, n), 0, last, 0, 1, 5, 6, 8)
		}
		for _, n := range []int{-2, -3, -number} {
			chooses(t, "four lines or two", l, set(p, n), 0, last, -2, 3, 8)
		}
	}
}

// wider: lists of 2 lines and of 5, but none of 3 or 4.
func wider(q int) ([]api.Node, api.Params) {
	l := join(char(1), penalty(0), char(1), penalty(0), char(1), penalty(q), penalty(q), penalty(q), char(1))
	return l, with(ragged(0), func(p *api.Params) { p.Shape = [][2]int{{0, 2}, {0, 2}, {0, 0}, {0, 0}, {0, 2}} })
}

// What lies beyond the number that is asked for does not count, though it be nearer.
func TestP907Beyond(t *testing.T) {
	for n, want := range map[int][]int{0: {3, 9}, 1: {3, 9}, 2: {3, 9}, 3: {1, 5, 6, 7, 9}, 4: {1, 5, 6, 7, 9}, -1: {3, 9}} {
		l, p := wider(0)
		p.Looseness = n
		chooses(t, "two or five lines", l, p, 0, false, len(want)-2, want...)
	}
	for n, want := range map[int][]int{0: {1, 5, 6, 7, 9}, -1: {1, 5, 6, 7, 9}, -2: {1, 5, 6, 7, 9}, -3: {3, 9}, -4: {3, 9}, 1: {1, 5, 6, 7, 9}} {
		l, p := wider(-50)
		p.Looseness = n
		chooses(t, "five lines or two", l, p, 0, false, len(want)-5, want...)
	}
}

// Where there is no good list, those count that are as little too full, with as few Bad lines.
func TestP907LooseBad(t *testing.T) {
	set := func(n int) api.Params { return with(ragged(3), func(p *api.Params) { p.Looseness = n }) }
	l := join(chars(3, 1, 0), penalty(0), char(9), penalty(0), chars(3, 1, 0))
	choosesNone(t, "a box too wide", l, set(1), 100, 0, false, api.ErrBreak)
	chooses(t, "a box too wide", l, set(0), 100, true, 0, 5, 7, 13)
	chooses(t, "a line more", l, set(1), 100, true, 1, 1, 5, 7, 13)
	chooses(t, "two lines more", l, set(2), 100, true, 2, 1, 3, 5, 7, 13)
	chooses(t, "as many lines as may be", l, set(99), 100, true, 4, 1, 3, 5, 7, 9, 11, 13)
	chooses(t, "a line less", l, set(-1), 100, true, 0, 5, 7, 13)
	// With another Bad line there could be more or fewer lines.
	l = chars(4, 2, 0)
	p := params(4)
	for _, n := range []int{0, 1, 2, -1, number, -number} {
		p.Looseness = n
		chooses(t, "two good lines", l, p, 100, true, 0, 3, 7)
	}
	l = chars(5, 2, 0)
	for _, n := range []int{0, 1, 2, -1, number, -number} {
		p.Looseness = n
		chooses(t, "two good lines and a Bad one", l, p, 100, true, 0, 1, 5, 9)
	}
}

func TestP907Discs(t *testing.T) {
	p := with(params(5), func(p *api.Params) { p.LinePenalty, p.HyphenPenalty, p.ExHyphenPenalty = 10, 50, 50 })
	l := join(char(4), hyphen(1), char(2), hyphen(1), char(2), hyphen(1), char(4), hyphen(1), char(1))
	legalIs(t, "Discs", l, p, []int{1, 7, 13, 19, 25}, []int{50, 50, 50, 50, -10000})
	chooses(t, "Discs", l, p, 0, false, 0, 1, 13, 25)
	p.Right = api.Glue{Stretch: 1, StretchOrder: 2}
	chooses(t, "Discs", l, p, 0, false, 0, 1, 13, 25)
	// Two Discs one behind the other may be too dear; and one ahead of the end.
	l = join(char(2), penalty(70), char(2), hyphen(0), char(2), penalty(70), char(2), hyphen(0), char(2))
	at := []int{1, 3, 9, 11, 17}
	chooses(t, "Discs", l, p, 0, false, 0, at[1], at[3], at[4])
	chooses(t, "Discs", l, with(p, func(p *api.Params) { p.DoubleHyphenDemerits = 1000 }), 0, false, 0, at[1], at[3], at[4])
	chooses(t, "Discs apart", l, with(p, func(p *api.Params) { p.DoubleHyphenDemerits = 10000 }), 0, false, 0, at[1], at[2], at[4])
	chooses(t, "no Disc ahead of the end", l, with(p, func(p *api.Params) { p.FinalHyphenDemerits = 3000 }), 0, false, 0, at[1], at[2], at[4])
	chooses(t, "none is welcome", l, with(p, func(p *api.Params) { p.HyphenPenalty = 10000 }), 0, false, 0, at[0], at[2], at[4])
}

// Lines that grow shorter by what is put to them: a line from an earlier break may do where one from a later one is too full.
func TestP907Back(t *testing.T) {
	l := join(char(9), penalty(0), kern(5, 0), char(9), kern(-19, 0), char(1), penalty(0), char(5))
	chooses(t, "a Kern back", l, ragged(5), 0, false, 0, 6, 8)
	l = join(char(3), penalty(0), kern(-20, 0), penalty(0), kern(5, 0), char(18), penalty(5), char(2), penalty(5), char(2), penalty(0), char(1))
	chooses(t, "a Kern that falls away but at one break", l, ragged(10), 0, false, 0, 10, 12)
	l = join(char(30), penalty(0), char(1), penalty(0), char(1), skip(-20, 0, 0), penalty(10000), kern(-9, 0), penalty(0), char(3))
	chooses(t, "far back", l, ragged(5), 0, false, 0, 8, 10)
	l = join(char(1), penalty(0), penalty(50), kern(50, 0), penalty(-10000), kern(-60, 0), char(1))
	chooses(t, "nothing from there, be it from far", l, ragged(10), 0, false, 0, 1, 4, 7)
	// Skips that shrink by less than 0, and a line that is not too full nonetheless.
	l = join(char(6), penalty(0), mark(), penalty(10000), skip(0, 0, -50), char(2), penalty(5), char(2), penalty(5), char(2), penalty(0), char(1))
	chooses(t, "shrinking back", l, ragged(6), 0, false, 0, 1, 10, 12)
	choosesNone(t, "shrinking back", l, ragged(5), most, 0, false, api.ErrBreak)
}

func TestP907Random(t *testing.T) {
	r := &random{907}
	count := map[string]int{}
	for range 6000 {
		l, p := r.paragraph(14, 8), r.params()
		if r.chance(2) {
			p.Looseness = r.of(-3, -2, -1, 1, 2, 3, number, -number)
		}
		tolerance, extra := r.asked()
		last := r.chance(2)
		got, want := choose(l, p, tolerance, extra, last), plainChoose(l, p, tolerance, extra, last)
		if !got.same(want) {
			t.Fatalf("Choose of %v, %v, %d, %d, %t: %v; want %v", l, p, tolerance, extra, last, got, want)
		}
		switch s := plainSumsOf(got.chosen); {
		case got.e == api.ErrBreak:
			count["none"]++
		case got.loose != 0:
			count["loose"]++
		case s.over > 0:
			count["over"]++
		case s.bad > 0:
			count["bad"]++
		case len(got.chosen) > 2:
			count["many"]++
		}
	}
	if count["none"] < 500 || count["loose"] < 300 || count["over"] < 500 || count["bad"] < 300 || count["many"] < 200 {
		t.Errorf("too few of a kind: %v", count)
	}
}

// Many lists that are equally good, in states that are kept apart by lines or by classes.
func TestP907TiesRandom(t *testing.T) {
	r := &random{9072}
	for range 3000 {
		l, p := chars(r.from(4, 9), 1, 0), ragged(9)
		for i := 1; i < len(l); i += 2 {
			l[i].Penalty = r.of(0, 0, 0, 1, -1)
			l[i-1].W = r.of(1, 1, 1, 2)
		}
		p.LinePenalty, p.Right.StretchOrder = 0, r.below(2)
		if r.chance(2) {
			p.Hsize, p.Right = r.from(2, 4), api.Glue{Stretch: r.from(0, 2), Shrink: r.from(0, 1)}
		}
		for range r.below(5) {
			p.Shape = append(p.Shape, [2]int{0, r.from(2, 4)})
		}
		p.AdjDemerits = r.of(0, 0, 1, 10000)
		tolerance, last := r.of(12, 200, 10000), r.chance(2)
		if got, want := choose(l, p, tolerance, 0, last), plainChoose(l, p, tolerance, 0, last); !got.same(want) {
			t.Fatalf("Choose of %v, %v: %v; want %v", l, p, got, want)
		}
	}
}

// Paragraphs as they are, in a few lines.
func TestP907Texts(t *testing.T) {
	r := &random{9070}
	for range 1500 {
		l, p := r.text(9), r.textParams()
		tolerance, extra := r.of(50, 200, 1000, 10000), r.of(0, 0, 3)
		last := r.chance(2)
		got, want := choose(l, p, tolerance, extra, last), plainChoose(l, p, tolerance, extra, last)
		if !got.same(want) {
			t.Fatalf("Choose of %v, %v, %d, %d, %t: %v; want %v", l, p, tolerance, extra, last, got, want)
		}
	}
}

// text: words, parted by Skips, some of them hyphenated, of so many breaks at most, and filled at its end.
func (r *random) text(most int) []api.Node {
	l := char(r.from(1, 4))
	for {
		next := skip(2, r.from(1, 2), 1)
		switch r.below(6) {
		case 0, 1:
			next = hyphen(1)
		case 2:
			next = disc(char(1), char(1), char(r.below(3)))
		}
		next = join(l, next, char(r.from(2, 6)))
		if len(breaksOf(next)) >= most {
			return join(l, penalty(10000), fill(1))
		}
		l = next
	}
}

func (r *random) textParams() api.Params {
	p := api.Params{Hsize: r.from(9, 20), LinePenalty: r.of(0, 10), HyphenPenalty: r.of(0, 50), AdjDemerits: r.of(0, 3000, 10000), DoubleHyphenDemerits: r.of(0, 10000), FinalHyphenDemerits: r.of(0, 5000)}
	p.Looseness = r.of(0, 0, 0, 1, -1, 2)
	switch r.below(4) {
	case 0:
		p.HangIndent, p.HangAfter = r.of(3, -3), r.from(-2, 2)
	case 1:
		for range r.from(2, 4) {
			p.Shape = append(p.Shape, [2]int{0, r.from(9, 20)})
		}
	}
	return p
}
