package paras_test

import (
	"slices"
	"testing"

	"galley/api"
	"galley/hyph"
	"galley/paras"
)

// The chapter's first two examples.
func TestP102Examples(t *testing.T) {
	l := para("a_a_a_a_a_a_a_a_a_a")
	p := api.Params{Pretolerance: 100, Tolerance: 200, LinePenalty: 10, Hsize: 21}
	tries(t, "L", l, p, hyph.New(), paras.Choice{List: l, Pass: 1, At: []int{5, 11, 17, 21}, Demerits: 400})
	p.Hsize = 4
	// Each line is too full, by 1: they are Bad, and have no demerits; the last one, too.
	tries(t, "L in narrow lines", l, p, hyph.New(), paras.Choice{List: l, Pass: 2, At: []int{1, 3, 5, 7, 9, 11, 13, 15, 17, 21}})
}

// two: a paragraph of two lines of 23, stretch 2 and shrink 1, in lines of 24: badness 12.
func two() []api.Node { return para("aa_aa_aa_aa") }

func TestP102First(t *testing.T) {
	for _, w := range []struct{ pre, pass int }{{-number, 2}, {-1, 2}, {0, 2}, {11, 2}, {12, 1}, {10000, 1}, {most, 1}, {most + 1, 1}, {number, 1}} {
		p := with(params(24, 200), func(p *api.Params) { p.Pretolerance = w.pre })
		tries(t, "two lines", two(), p, hyph.New(), paras.Choice{List: two(), Pass: w.pass, At: []int{5, 13}, Demerits: 22*22 + 100})
	}
	// With a Pretolerance of 0 lines that need no stretch do.
	tries(t, "two lines", two(), params(23, 0), hyph.New(), paras.Choice{List: two(), Pass: 1, At: []int{5, 13}, Demerits: 200})
	// In the first pass no line may be too full, however much is tolerated.
	passIs(t, "a word too wide", para("aa"), params(9, number), hyph.New(), 2, 4)
}

func TestP102Second(t *testing.T) {
	for _, w := range []struct{ tolerance, demerits int }{{0, 100}, {11, 100}, {12, 22*22 + 100}, {10000, 22*22 + 100}, {most, 22*22 + 100}, {most + 1, 22*22 + 100}, {number, 22*22 + 100}} {
		for _, emergency := range []int{-1, 0, -most} {
			p := with(params(24, w.tolerance), func(p *api.Params) { p.Pretolerance, p.Emergency = -1, emergency })
			tries(t, "two lines", two(), p, hyph.New(), paras.Choice{List: two(), Pass: 2, At: []int{5, 13}, Demerits: w.demerits})
		}
	}
	// A Bad line has no demerits: as little too wide as may be, and as few of them as there have to be.
	tries(t, "words too wide", para("aa_aaaaaa_aa"), params(24, 100), hyph.New(), paras.Choice{List: para("aa_aaaaaa_aa"), Pass: 2, At: []int{2, 9, 14}, Demerits: 100})
}

// Only a tolerance that is asked for has to be one.
func TestP102Range(t *testing.T) {
	for _, tolerance := range []int{-1, -number} {
		p := with(params(24, 12), func(p *api.Params) { p.Tolerance = tolerance })
		passIs(t, "two lines", two(), p, hyph.New(), 1, 5, 13)
		for _, emergency := range []int{-1, 0, 1, most} {
			for _, pre := range []int{-1, 11} {
				p.Emergency, p.Pretolerance = emergency, pre
				triesNone(t, "two lines", two(), p, setup(), hyph.New(), api.ErrRange)
			}
		}
	}
}

func TestP102Third(t *testing.T) {
	for _, w := range []struct{ tolerance, emergency, pass, demerits int }{
		{12, 1, 2, 22*22 + 100}, {11, 1, 3, 14*14 + 100}, {11, 2, 3, 12*12 + 100}, {4, 1, 3, 14*14 + 100}, {3, 1, 3, 100}, {3, 2, 3, 12*12 + 100}, {0, 1, 3, 100}, {0, most, 3, 200},
		{11, 0, 2, 100}, {11, -1, 2, 100},
	} {
		p := with(params(24, w.tolerance), func(p *api.Params) { p.Emergency = w.emergency })
		if w.tolerance == 12 {
			p.Pretolerance = 11
		}
		tries(t, "two lines", two(), p, hyph.New(), paras.Choice{List: two(), Pass: w.pass, At: []int{5, 13}, Demerits: w.demerits})
	}
	// Words too wide are so in the third pass, too.
	p := with(params(9, number), func(p *api.Params) { p.Emergency = most })
	passIs(t, "words too wide", para("aa_aa"), p, hyph.New(), 3, 2, 7)
	// Tolerance and not Pretolerance is what counts there.
	p = with(params(24, 11), func(p *api.Params) { p.Pretolerance, p.Tolerance, p.Emergency = 3, 4, 1 })
	tries(t, "two lines", two(), p, hyph.New(), paras.Choice{List: two(), Pass: 3, At: []int{5, 13}, Demerits: 14*14 + 100})
	p.Pretolerance, p.Tolerance = 4, 3
	tries(t, "two lines", two(), p, hyph.New(), paras.Choice{List: two(), Pass: 3, At: []int{5, 13}, Demerits: 100})
	p.Tolerance = most + 1
	p.Hsize = 12
	passIs(t, "a line too wide", para("aaa_aa"), p, hyph.New(), 3, 3, 8)
}

// A paragraph that breaks only by a hyphen: its first line is 15 and 3 wide, and 6 more with a letter and a hyphen.
func TestP102Hyphen(t *testing.T) {
	l, hyphened := para("aaa_abbb"), para("aaa_a{-||}bbb")
	p := params(24, 10)
	tries(t, "words", l, p, patterns("1b"), paras.Choice{List: para("aaa_a{-||}b{-||}b{-||}b"), Pass: 2, At: []int{5, 25}, Demerits: 200})
	tries(t, "words", l, p, patterns("a-bbb"), paras.Choice{List: hyphened, Pass: 2, At: []int{5, 15}, Demerits: 200})
	// HyphenPenalty and FinalHyphenDemerits count.
	dear := with(p, func(p *api.Params) { p.HyphenPenalty, p.FinalHyphenDemerits = 50, 7 })
	tries(t, "words", l, dear, patterns("a-bbb"), paras.Choice{List: hyphened, Pass: 2, At: []int{5, 15}, Demerits: 200 + 2500 + 7})
	// Without a hyphen it is a Bad line, in the second pass, or in the third one.
	tries(t, "words", l, p, hyph.New(), paras.Choice{List: l, Pass: 2, At: []int{3, 10}, Demerits: 100})
	p.Emergency = 1
	tries(t, "words", l, p, hyph.New(), paras.Choice{List: l, Pass: 3, At: []int{3, 10}, Demerits: 100})
	// The third pass has the hyphens, too.
	p.Hsize = 25
	tries(t, "words", l, p, patterns("a-bbb"), paras.Choice{List: hyphened, Pass: 3, At: []int{5, 15}, Demerits: 14*14 + 100})
	// The first pass has none, though the second one's way is better.
	p = params(24, 10000)
	tries(t, "words", l, p, patterns("a-bbb"), paras.Choice{List: l, Pass: 1, At: []int{3, 10}, Demerits: 100000000 + 100})
	// A Disc of its own it may be broken at.
	passIs(t, "words with a Disc", hyphened, params(24, 10), hyph.New(), 1, 5, 15)
}

// Left and Right, and the letters that count, are the setup's.
func TestP102Setup(t *testing.T) {
	s := setup()
	s.Left, s.Right = 2, 3
	p := with(params(24, 10), func(p *api.Params) { p.Pretolerance = -1 })
	c, e := paras.Try(para("a_aaaaaa"), p, s, patterns("1a"))
	if want := para("a_aa{-||}a{-||}aaa"); !slices.Equal(c.List, want) || e != api.OK {
		t.Errorf("Try: %v, %d", c, e)
	}
}

// Looseness is Choose's.
func TestP102Loose(t *testing.T) {
	l := para("a_a_a_a")
	p := with(params(13, 10000), func(p *api.Params) { p.Right = fil() })
	for _, w := range []struct {
		wish, loose int
		at          []int
	}{{0, 0, []int{3, 9}}, {1, 1, []int{1, 3, 9}}, {2, 2, []int{1, 3, 5, 9}}, {3, 2, []int{1, 3, 5, 9}}, {-1, 0, []int{3, 9}}, {-number, 0, []int{3, 9}}} {
		p.Looseness = w.wish
		want := paras.Choice{List: l, Pass: 1, At: w.at, Demerits: 100 * len(w.at), Loose: w.loose}
		tries(t, "words", l, p, hyph.New(), want)
		want.Pass = 2
		tries(t, "words", l, with(p, func(p *api.Params) { p.Pretolerance = -1 }), hyph.New(), want)
		// The first pass is not left for the sake of the looseness.
		tries(t, "words", l, with(p, func(p *api.Params) { p.Emergency = 9 }), hyph.New(), with1(want))
	}
	// Shorter than best: what shrinks does so.
	p = with(params(20, 10000), func(p *api.Params) { p.Looseness = -1 })
	passIs(t, "words", para("a_a_a"), p, hyph.New(), 1, 7)
	if c, _ := paras.Try(para("aa_aa"), with(params(22, 10000), func(p *api.Params) { p.LinePenalty, p.HyphenPenalty = 0, 0; p.Looseness = -1 }), setup(), hyph.New()); c.Loose != 0 || len(c.At) != 1 {
		t.Errorf("Try: %v", c)
	}
	less := join(row("aa"), penalty(-500), row("aa"))
	p = with(params(20, 10000), func(p *api.Params) { p.Right, p.Looseness = fil(), -1 })
	tries(t, "words in one line", finished(less), p, hyph.New(), paras.Choice{List: finished(less), Pass: 1, At: []int{7}, Demerits: 100, Loose: -1})
}

func with1(c paras.Choice) paras.Choice {
	c.Pass = 1
	return c
}

// The setup and the Hyph have to be right, also where the first pass would do.
func TestP102Wrong(t *testing.T) {
	for _, p := range []api.Params{params(24, 10000), params(24, 0), with(params(24, 0), func(p *api.Params) { p.Tolerance = -1 }), with(params(24, 0), func(p *api.Params) { p.Emergency = 1 })} {
		for _, l := range [][]api.Node{two(), nil} {
			for _, s := range wrongSetups() {
				triesNone(t, "a setup that isn't right", l, p, s, hyph.New(), api.ErrArg)
				triesNone(t, "a setup that isn't right, and no Hyph", l, p, s, nil, api.ErrArg)
			}
			for _, h := range wrongHyphs() {
				triesNone(t, "no Hyph", l, p, setup(), h, api.ErrArg)
			}
		}
	}
}

// Of two errors the first one is the answer.
func TestP102Order(t *testing.T) {
	for e, all := range wrongParams() {
		for _, p := range all {
			triesNone(t, "parameters", two(), p, setup(), hyph.New(), e)
			triesNone(t, "parameters ahead of the list", row("}"), p, setup(), hyph.New(), e)
			triesNone(t, "parameters ahead of the paragraph", endless(), p, wrongSetups()[0], nil, e)
		}
	}
	for e, lists := range wrongLists() {
		for _, l := range lists {
			triesNone(t, "a list", l, params(24, 100), setup(), hyph.New(), e)
			triesNone(t, "a list ahead of the setup", l, params(24, 100), wrongSetups()[0], nil, e)
			triesNone(t, "a list ahead of the tolerance", l, params(24, -1), setup(), hyph.New(), e)
		}
	}
	triesNone(t, "a paragraph", endless(), params(24, 100), setup(), hyph.New(), api.ErrGlue)
	triesNone(t, "a paragraph ahead of the setup", endless(), params(24, 100), wrongSetups()[0], nil, api.ErrGlue)
	triesNone(t, "a paragraph ahead of the tolerance", endless(), params(24, -1), setup(), hyph.New(), api.ErrGlue)
	triesNone(t, "a Hyph ahead of the tolerance", two(), params(24, -1), setup(), nil, api.ErrArg)
}

// Hyphenate's error counts where the second pass is tried, ahead of the tolerance's.
func TestP102Size(t *testing.T) {
	l := finished(join(repeat(row("a"), 1992), row("_aaa")))
	if len(l) != 1998 {
		t.Fatal(len(l))
	}
	h := patterns("1a")
	for _, tolerance := range []int{-1, 0, 100, most} {
		for _, emergency := range []int{0, 1} {
			p := with(params(20, tolerance), func(p *api.Params) { p.Emergency = emergency })
			triesNone(t, "a paragraph that becomes too long", l, p, setup(), h, api.ErrSize)
		}
	}
	p := params(5*1992, 0)
	p.Tolerance = -1
	passIs(t, "a paragraph that would become too long", l, p, h, 1, 1992, 1998)
	passIs(t, "a paragraph without hyphens", l, params(20, 0), hyph.New(), 2, 1992, 1998)
}

// Where all is welcome nothing is in the way.
func TestP102Empty(t *testing.T) {
	for _, l := range [][]api.Node{nil, {}} {
		tries(t, "nothing", l, params(0, 0), hyph.New(), paras.Choice{Pass: 1, At: []int{0}, Demerits: 100})
		tries(t, "nothing in a line too wide", l, params(1, 0), hyph.New(), paras.Choice{Pass: 2, At: []int{0}})
		tries(t, "nothing in a line too narrow", l, with(params(-1, 0), func(p *api.Params) { p.Emergency = 1 }), hyph.New(), paras.Choice{Pass: 3, At: []int{0}})
	}
	tries(t, "the end alone", para(""), params(9, 0), hyph.New(), paras.Choice{List: para(""), Pass: 1, At: []int{2}, Demerits: 100})
}

func TestP102Random(t *testing.T) {
	r := &random{102}
	var passes [4]int
	failed := 0
	for range 3000 {
		l, p, s, h := r.paragraph(12), r.params(), r.setup(), r.hyph()
		if r.chance(20) {
			l = join(l, endless())
		}
		got, e := paras.Try(l, p, s, h)
		want, e2 := plainTry(l, p, s, h)
		if !same(got, want) || e != e2 {
			t.Fatalf("Try of %s, %v: %s, %d; want %s, %d", told(l), p, choiceText(got), e, choiceText(want), e2)
		}
		passes[got.Pass]++
		if e != api.OK {
			failed++
		}
	}
	if min(passes[1], passes[2], passes[3], failed) < 150 {
		t.Errorf("passes %v, %d errors", passes, failed)
	}
}
