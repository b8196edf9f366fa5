package breaks_test

import (
	"slices"

	"galley/api"
	"galley/breaks"
	"galley/glue"
	"galley/nodes"
	"galley/scaled"
)

// What the chapter's words say, done word for word: what the program answers is held against it.

func plainCheck(p api.Params) api.Errno {
	for _, n := range []int{p.Pretolerance, p.Tolerance, p.LinePenalty, p.HyphenPenalty, p.ExHyphenPenalty, p.AdjDemerits, p.DoubleHyphenDemerits, p.FinalHyphenDemerits, p.Looseness, p.Emergency, p.Hsize, p.HangIndent, p.HangAfter} {
		if n < -2147483647 || n > 2147483647 {
			return api.ErrArg
		}
	}
	lengths := []int{p.Hsize, p.HangIndent, p.Emergency}
	for _, line := range p.Shape {
		lengths = append(lengths, line[0], line[1])
	}
	for _, n := range lengths {
		if n < -1073741823 || n > 1073741823 {
			return api.ErrArg
		}
	}
	if len(p.Shape) > 2000 {
		return api.ErrArg
	}
	for _, g := range []api.Glue{p.Left, p.Right} {
		if glue.Check(g) != api.OK || g.ShrinkOrder > 0 && g.Shrink != 0 {
			return api.ErrGlue
		}
	}
	return api.OK
}

// plainItems: where a list's own items begin.
func plainItems(l []api.Node) []int {
	var at []int
	for i := 0; i < len(l); i, _ = nodes.Item(l, i) {
		at = append(at, i)
	}
	return at
}

// plainFirst: the errors that all calls of a paragraph have.
func plainFirst(l []api.Node, p api.Params) api.Errno {
	if e := plainCheck(p); e != api.OK {
		return e
	}
	if e := nodes.Check(l); e != api.OK {
		return e
	}
	for _, at := range plainItems(l) {
		if n := l[at]; n.Kind == api.Skip && n.Glue.ShrinkOrder > 0 && n.Glue.Shrink != 0 {
			return api.ErrGlue
		}
	}
	return api.OK
}

func plainFalls(n api.Node) bool {
	return slices.Contains([]int{api.Skip, api.Kern, api.Penalty, api.MathOn, api.MathOff}, n.Kind)
}

func plainLegal(l []api.Node, p api.Params) (at, penalty []int, e api.Errno) {
	if e := plainFirst(l, p); e != api.OK {
		return nil, nil, e
	}
	items := plainItems(l)
	for i, here := range items {
		q, n := 10000, l[here]
		skipBehind := i+1 < len(items) && l[items[i+1]].Kind == api.Skip
		switch {
		case n.Kind == api.Skip && i > 0 && !plainFalls(l[items[i-1]]):
			q = 0
		case n.Kind == api.Kern && n.Sub == 1 && skipBehind:
			q = 0
		case n.Kind == api.MathOff && skipBehind:
			q = 0
		case n.Kind == api.Penalty:
			q = n.Penalty
		case n.Kind == api.Disc:
			q = p.ExHyphenPenalty
			if first, _, _, _ := nodes.Parts(l, here); len(first) > 0 {
				q = p.HyphenPenalty
			}
		}
		if q < 10000 {
			at, penalty = append(at, here), append(penalty, q)
		}
	}
	return append(at, len(l)), append(penalty, -10000), api.OK
}

func isDisc(l []api.Node, at int) bool { return at >= 0 && at < len(l) && l[at].Kind == api.Disc }

// plainContents: what stands in a line, each Disc between its ends as its third list.
func plainContents(l []api.Node, from, to int) []api.Node {
	var between, line []api.Node
	falling := from >= 0
	if isDisc(l, from) {
		_, second, _, _ := nodes.Parts(l, from)
		line = append(line, second...)
		falling = len(second) == 0
	}
	for _, at := range plainItems(l) {
		if at < from || at >= to || at == from && isDisc(l, from) {
			continue
		}
		if falling && plainFalls(l[at]) {
			continue
		}
		falling = false
		end, _ := nodes.Item(l, at)
		if l[at].Kind == api.Disc {
			_, _, third, _ := nodes.Parts(l, at)
			between = append(between, third...)
		} else {
			between = append(between, l[at:end]...)
		}
	}
	line = append(line, between...)
	if isDisc(l, to) {
		first, _, _, _ := nodes.Parts(l, to)
		line = append(line, first...)
	}
	return line
}

// plainSum: of items one by one, as all of them may be more than a dimension.
func plainSum(l []api.Node) api.Totals {
	var sum api.Totals
	for _, at := range plainItems(l) {
		end, _ := nodes.Item(l, at)
		t, _ := nodes.Totals(l[at:end], false)
		sum.Nat += t.Nat
		for i := range 4 {
			sum.Stretch[i] += t.Stretch[i]
			sum.Shrink[i] += t.Shrink[i]
		}
	}
	return sum
}

// plainTotals: of a line between two breaks that are ones.
func plainTotals(l []api.Node, p api.Params, from, to int) api.Totals {
	return plainSum(slices.Concat(plainContents(l, from, to), glued(p.Left), glued(p.Right)))
}

func plainLine(l []api.Node, p api.Params, from, to int) (api.Totals, api.Errno) {
	at, _, e := plainLegal(l, p)
	if e != api.OK {
		return api.Totals{}, e
	}
	if from != -1 && !slices.Contains(at, from) || !slices.Contains(at, to) || from >= to {
		return api.Totals{}, api.ErrNone
	}
	return plainTotals(l, p, from, to), api.OK
}

func plainWidth(p api.Params, line int) (width, indent int, e api.Errno) {
	if e := plainCheck(p); e != api.OK {
		return 0, 0, e
	}
	if line < 1 {
		return 0, 0, api.ErrRange
	}
	if n := len(p.Shape); n > 0 {
		if line > n {
			line = n
		}
		return p.Shape[line-1][1], p.Shape[line-1][0], api.OK
	}
	hangs := p.HangAfter >= 0 && line > p.HangAfter || p.HangAfter < 0 && line <= -p.HangAfter
	switch {
	case p.HangIndent > 0 && hangs:
		return p.Hsize - p.HangIndent, p.HangIndent, api.OK
	case p.HangIndent < 0 && hangs:
		return p.Hsize + p.HangIndent, 0, api.OK
	}
	return p.Hsize, 0, api.OK
}

func plainBadness(by, can int) int {
	if by > 2147483647 {
		by = 2147483647
	}
	if can > 2147483647 {
		can = 2147483647
	}
	if can < 0 {
		can = -1
	}
	badness, e := scaled.Badness(by, can)
	if e != api.OK {
		panic("no badness")
	}
	return badness
}

func plainJudge(t api.Totals, width int) (badness, class int, e api.Errno) {
	for _, n := range []int{t.Nat, width, t.Stretch[0], t.Shrink[0]} {
		if n < -70368744177664 || n > 70368744177664 {
			return 0, 0, api.ErrRange
		}
	}
	s := width - t.Nat
	if s == 0 {
		return 0, 2, api.OK
	}
	if s > 0 {
		if t.Stretch[1] != 0 || t.Stretch[2] != 0 || t.Stretch[3] != 0 {
			return 0, 2, api.OK
		}
		badness = plainBadness(s, t.Stretch[0])
		if badness > 99 {
			return badness, 0, api.OK
		}
		if badness > 12 {
			return badness, 1, api.OK
		}
		return badness, 2, api.OK
	}
	if -s > t.Shrink[0] {
		return 10001, 3, api.OK
	}
	badness = plainBadness(-s, t.Shrink[0])
	if badness > 12 {
		return badness, 3, api.OK
	}
	return badness, 2, api.OK
}

// plainly: a paragraph that may be, and what was found out of it.
type plainly struct {
	l                []api.Node
	p                api.Params
	tolerance, extra int
	legal, penalties []int
	totals           map[[2]int]api.Totals
}

func newPlainly(l []api.Node, p api.Params, tolerance, extra int) *plainly {
	at, penalties, _ := plainLegal(l, p)
	return &plainly{l, p, tolerance, extra, at, penalties, map[[2]int]api.Totals{}}
}

func (x *plainly) line(from, to int) api.Totals {
	t, found := x.totals[[2]int{from, to}]
	if !found {
		t = plainTotals(x.l, x.p, from, to)
		x.totals[[2]int{from, to}] = t
	}
	return t
}

// one: a line between two breaks, the n-th one.
func (x *plainly) one(from, to, n, classAhead int) breaks.Break {
	t := x.line(from, to)
	t.Stretch[0] += x.extra
	width, _, _ := plainWidth(x.p, n)
	b := breaks.Break{At: to}
	b.Badness, b.Class, _ = plainJudge(t, width)
	b.Bad = b.Badness > x.tolerance || b.Badness > 10000
	if b.Badness == 10001 {
		b.Over = t.Nat - width - t.Shrink[0]
	}
	if b.Bad {
		return b
	}
	if d := x.p.LinePenalty + b.Badness; d < -9999 || d > 9999 {
		b.Demerits = 100000000
	} else {
		b.Demerits = d * d
	}
	q := x.penalties[slices.Index(x.legal, to)]
	if q > 0 {
		b.Demerits += q * q
	}
	if q < 0 && q > -10000 {
		b.Demerits -= q * q
	}
	if isDisc(x.l, to) && isDisc(x.l, from) {
		b.Demerits += x.p.DoubleHyphenDemerits
	}
	if to == len(x.l) && isDisc(x.l, from) {
		b.Demerits += x.p.FinalHyphenDemerits
	}
	if b.Class > classAhead+1 || b.Class < classAhead-1 {
		b.Demerits += x.p.AdjDemerits
	}
	return b
}

// lines: that end at these breaks.
func (x *plainly) lines(at []int) []breaks.Break {
	var lines []breaks.Break
	from, class := -1, 2
	for i, to := range at {
		b := x.one(from, to, i+1, class)
		lines = append(lines, b)
		from, class = to, b.Class
	}
	return lines
}

func plainPricing(l []api.Node, p api.Params, tolerance, extra int) api.Errno {
	if e := plainFirst(l, p); e != api.OK {
		return e
	}
	if tolerance < 0 || tolerance > 1073741823 || extra < 0 || extra > 1073741823 {
		return api.ErrRange
	}
	return api.OK
}

func plainCost(l []api.Node, p api.Params, tolerance, extra int, at []int) ([]breaks.Break, api.Errno) {
	if e := plainPricing(l, p, tolerance, extra); e != api.OK {
		return nil, e
	}
	x := newPlainly(l, p, tolerance, extra)
	if len(at) == 0 || at[len(at)-1] != len(l) {
		return nil, api.ErrNone
	}
	for i, here := range at {
		if !slices.Contains(x.legal, here) || i > 0 && here <= at[i-1] {
			return nil, api.ErrNone
		}
	}
	for i, here := range x.legal {
		if x.penalties[i] <= -10000 && !slices.Contains(at, here) {
			return nil, api.ErrNone
		}
	}
	return x.lines(at), api.OK
}

// plainSums: of a list of breaks.
type plainSums struct{ over, bad, demerits int }

func plainSumsOf(lines []breaks.Break) plainSums {
	var s plainSums
	for _, b := range lines {
		s.over += b.Over
		s.demerits += b.Demerits
		if b.Bad {
			s.bad++
		}
	}
	return s
}

// plainEarlier: going back from the end, is the first break at which they are unlike earlier in a?
func plainEarlier(a, b []breaks.Break) bool {
	for i := 1; ; i++ {
		x, y := -1, -1
		if i <= len(a) {
			x = a[len(a)-i].At
		}
		if i <= len(b) {
			y = b[len(b)-i].At
		}
		if x != y || x == -1 {
			return x < y
		}
	}
}

// plainBest: of lists that are not worse than others.
func plainBest(lists [][]breaks.Break) []breaks.Break {
	best := lists[0]
	for _, l := range lists[1:] {
		d, least := plainSumsOf(l).demerits, plainSumsOf(best).demerits
		if d < least || d == least && plainEarlier(l, best) {
			best = l
		}
	}
	return best
}

// all: each list of breaks that Cost takes, told by it.
func (x *plainly) all() [][]breaks.Break {
	lists := [][]int{nil}
	for i, here := range x.legal {
		for _, at := range slices.Clone(lists) {
			lists = append(lists, append(slices.Clone(at), here))
		}
		if x.penalties[i] <= -10000 {
			lists = lists[len(lists)/2:]
		}
	}
	var all [][]breaks.Break
	for _, at := range lists {
		all = append(all, x.lines(at))
	}
	return all
}

// plainGood: those of all lists that have no Bad line; if there are none, and last is true, those that are not worse.
func plainGood(all [][]breaks.Break, last bool) [][]breaks.Break {
	var good [][]breaks.Break
	for _, l := range all {
		if plainSumsOf(l).bad == 0 {
			good = append(good, l)
		}
	}
	if len(good) > 0 || !last {
		return good
	}
	for _, l := range all {
		if len(good) > 0 {
			a, b := plainSumsOf(l), plainSumsOf(good[0])
			if a.over > b.over || a.over == b.over && a.bad > b.bad {
				continue
			}
			if a.over != b.over || a.bad != b.bad {
				good = nil
			}
		}
		good = append(good, l)
	}
	return good
}

func plainChoose(l []api.Node, p api.Params, tolerance, extra int, last bool) choice {
	if e := plainPricing(l, p, tolerance, extra); e != api.OK {
		return choice{e: e}
	}
	good := plainGood(newPlainly(l, p, tolerance, extra).all(), last)
	if len(good) == 0 {
		return choice{e: api.ErrBreak}
	}
	best := plainBest(good)
	if p.Looseness == 0 {
		return choice{chosen: best}
	}
	m := len(best)
	step := 1
	if p.Looseness < 0 {
		step = -1
	}
	var found [][]breaks.Break
	// From m on: the last number that lists have is the nearest one.
	for n := m; n >= 1 && n <= len(l)+1; n += step {
		if (n-m)*step > p.Looseness*step {
			break
		}
		var those [][]breaks.Break
		for _, lines := range good {
			if len(lines) == n {
				those = append(those, lines)
			}
		}
		if len(those) > 0 {
			found = those
		}
	}
	chosen := plainBest(found)
	return choice{chosen: chosen, loose: len(chosen) - m}
}
