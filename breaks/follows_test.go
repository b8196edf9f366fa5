package breaks_test

import (
	"slices"
	"testing"

	"galley/api"
	"galley/breaks"
	"galley/nodes"
)

// costly: what a list of breaks is held against another by: Over, Bad lines, Demerits.
func costly(lines []breaks.Break) [3]int {
	s := plainSumsOf(lines)
	return [3]int{s.over, s.bad, s.demerits}
}

// P908: no list of breaks that Cost takes is better than the chosen one; and that is as Cost says.
func TestP908(t *testing.T) {
	r := &random{908}
	for range 2500 {
		l, p := r.paragraph(16, 8), r.params()
		tolerance, extra := r.asked()
		got := choose(l, p, tolerance, extra, true)
		if told, e := breaks.Cost(l, p, tolerance, extra, got.at()); got.e != api.OK || e != api.OK || !slices.Equal(told, got.chosen) {
			t.Fatalf("Choose of %v, %v: %v; Cost of it: %v, %d", l, p, got, told, e)
		}
		legal, _, _ := breaks.Legal(l, p)
		least := costly(got.chosen)
		for set := range 1 << len(legal) {
			var at []int
			for i, here := range legal {
				if set>>i&1 == 1 {
					at = append(at, here)
				}
			}
			lines, e := breaks.Cost(l, p, tolerance, extra, at)
			if now := costly(lines); e == api.OK && slices.Compare(now[:], least[:]) < 0 {
				t.Fatalf("%v, %v: %v is better than %v", l, p, lines, got.chosen)
			}
		}
	}
}

// long: a paragraph of many words, in many lines.
func (r *random) long(words int) []api.Node {
	l := char(r.from(1, 4) * pt)
	for range words {
		l = join(l, skip(3*pt, pt*r.from(1, 2), pt), char(r.from(2, 9)*pt))
		switch r.below(5) {
		case 0:
			l = join(l, hyphen(2*pt), char(r.from(1, 5)*pt))
		case 1:
			l = join(l, penalty(r.from(-100, 200)), char(r.from(1, 5)*pt))
		}
	}
	return join(l, penalty(10000), fill(1))
}

// In long paragraphs no other list that is near is better: with a break less, a break more, or one moved.
func TestP908Long(t *testing.T) {
	r := &random{9080}
	for i := range 12 {
		l := r.long(200)
		p := api.Params{Hsize: r.from(40, 120) * pt, LinePenalty: 10, HyphenPenalty: 50, ExHyphenPenalty: 50, AdjDemerits: 10000, DoubleHyphenDemerits: 10000, FinalHyphenDemerits: 5000}
		if i%2 == 1 {
			p.HangIndent, p.HangAfter = 15*pt, r.from(-5, 5)
		}
		tolerance := r.of(20, 200, 10000)
		got := choose(l, p, tolerance, 0, true)
		if got.e != api.OK || len(got.chosen) < 10 {
			t.Fatalf("Choose of a long paragraph: %d, %d lines", got.e, len(got.chosen))
		}
		legal, _, _ := breaks.Legal(l, p)
		at, least := got.at(), costly(got.chosen)
		for range 400 {
			near := slices.Clone(at)
			for range r.from(1, 3) {
				near = r.moved(near, legal)
			}
			lines, e := breaks.Cost(l, p, tolerance, 0, near)
			if now := costly(lines); e == api.OK && slices.Compare(now[:], least[:]) < 0 {
				t.Fatalf("%v is better than %v", near, at)
			}
		}
	}
}

// moved: some other list of breaks.
func (r *random) moved(at, legal []int) []int {
	here := legal[r.below(len(legal)-1)]
	i, found := slices.BinarySearch(at, here)
	if found {
		at = slices.Delete(at, i, i+1)
	} else {
		at = slices.Insert(at, i, here)
	}
	if r.chance(2) && len(at) > 1 { // the one beside it goes, or is put in anew
		i = min(i, len(at)-2)
		k, _ := slices.BinarySearch(legal, at[i])
		if k = max(0, min(k+r.from(-2, 2), len(legal)-2)); !slices.Contains(at, legal[k]) {
			at[i] = legal[k]
			slices.Sort(at)
		}
	}
	return at
}

// P909: with a greater tolerance there are no more Bad lines, and what is good with the lesser one, too, is chosen there.
func TestP909Tolerance(t *testing.T) {
	r := &random{909}
	fewer, kept := 0, 0
	for range 4000 {
		l, p := r.paragraph(20, 9), r.params()
		a, extra := r.asked()
		b, _ := r.asked()
		less, more := min(a, b), max(a, b)
		withLess, withMore := choose(l, p, less, extra, true), choose(l, p, more, extra, true)
		x, y := costly(withLess.chosen), costly(withMore.chosen)
		if y[1] > x[1] || y[0] != x[0] {
			t.Fatalf("Choose of %v, %v, %d: %v; %d: %v", l, p, less, withLess, more, withMore)
		}
		if y[1] < x[1] {
			fewer++
		}
		if slices.ContainsFunc(withMore.chosen, func(b line) bool { return b.Badness > min(less, 10000) }) {
			continue
		}
		kept++
		if !withLess.same(withMore) || !choose(l, p, less, extra, false).same(withMore) {
			t.Fatalf("Choose of %v, %v, %d: %v; %d: %v", l, p, less, withLess, more, withMore)
		}
	}
	if fewer < 200 || kept < 500 {
		t.Errorf("only %d with fewer Bad lines, %d kept", fewer, kept)
	}
}

// P909: totals of a line are those of its pieces.
func TestP909Pieces(t *testing.T) {
	r := &random{9090}
	for range 1000 {
		l, p := r.paragraph(25, unbounded), r.params()
		at, _, _ := breaks.Legal(l, p)
		from := append([]int{-1}, at...)[r.below(len(at))]
		to := at[r.below(len(at))]
		if from >= to {
			continue
		}
		got, e := breaks.Line(l, p, from, to)
		pieces := plainContents(l, from, to)
		items := append(plainItems(pieces), len(pieces))
		cut := items[r.below(len(items))]
		a, eA := nodes.Totals(pieces[:cut], false)
		b, eB := nodes.Totals(pieces[cut:], false)
		c, eC := nodes.Totals(join(glued(p.Left), glued(p.Right)), false)
		if max(e, eA, eB, eC) != api.OK {
			t.Fatalf("%v, %v: %d %d %d %d", l, p, e, eA, eB, eC)
		}
		if sum := plus(a, plus(b, c)); got != sum {
			t.Fatalf("Line of %v, %v from %d to %d: %v; its pieces have %v", l, p, from, to, got, sum)
		}
	}
	// A line across a break at a Penalty, behind which nothing falls away, is the two lines that it parts.
	l := join(char(1), skip(2, 3, 4), char(5), penalty(0), char(6), glued(api.Glue{Nat: 7, Stretch: 8, StretchOrder: 2}), char(9))
	whole, _ := breaks.Line(l, api.Params{}, -1, len(l))
	first, _ := breaks.Line(l, api.Params{}, -1, 3)
	second, _ := breaks.Line(l, api.Params{}, 3, len(l))
	if whole != plus(first, second) || whole.Nat != 30 {
		t.Errorf("%v; its lines have %v, %v", whole, first, second)
	}
}

func plus(a, b api.Totals) api.Totals {
	a.Nat += b.Nat
	for i := range 4 {
		a.Stretch[i] += b.Stretch[i]
		a.Shrink[i] += b.Shrink[i]
	}
	return a
}
