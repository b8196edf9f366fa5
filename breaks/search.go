package breaks

import (
	"cmp"
	"math"
	"slices"
)

// state: what the lines to come hang on: the break, how many lines there are ahead of it, and the last one's class.
type state struct {
	place, line, class int
}

// burden: what is to be least ahead of all demerits.
type burden struct {
	over, bad int
}

func (b burden) compare(c burden) int {
	return cmp.Or(cmp.Compare(b.over, c.over), cmp.Compare(b.bad, c.bad))
}

// sequence: the best one so far that comes to a state.
type sequence struct {
	state
	burden
	demerits int
	rank     int       // among those that end at the same break: going back from there, the earlier breaks come first
	from     *sequence // without its last line
}

// compare: by all that lines cost.
func (s *sequence) compare(o *sequence) int {
	return cmp.Or(s.burden.compare(o.burden), cmp.Compare(s.demerits, o.demerits))
}

// path: the numbers of its breaks, without the beginning.
func (s *sequence) path() []int {
	var path []int
	for ; s.from != nil; s = s.from {
		path = append(path, s.place)
	}
	slices.Reverse(path)
	return path
}

// reached: the sequences that come to one break.
type reached struct {
	all   []sequence
	known map[state]int // where those of all stand
	least []burden      // of those to which the same widths are to come
}

// take: a sequence, if there is none that comes to its state and is as good.
func (r *reached) take(next *sequence, alike int) {
	if r.least[alike].compare(next.burden) < 0 {
		return
	}
	r.least[alike] = next.burden
	at, found := r.known[next.state]
	switch {
	case !found:
		r.known[next.state] = len(r.all)
		r.all = append(r.all, *next)
	case next.compare(&r.all[at]) < 0:
		r.all[at] = *next
	}
}

// ranked: those that may become the best, each with its rank.
func (r *reached) ranked(alike func(lines int) int) []sequence {
	all := slices.DeleteFunc(r.all, func(q sequence) bool { return q.burden != r.least[alike(q.line)] })
	slices.SortFunc(all, func(a, b sequence) int {
		return cmp.Or(cmp.Compare(a.from.place, b.from.place), cmp.Compare(a.from.rank, b.from.rank))
	})
	for rank := range all {
		all[rank].rank = rank
	}
	return all
}

// search: through the sequences of breaks, from the beginning to the end.
type search struct {
	*pricing
	widths  []int // of lines; the last one is that of all behind it, too
	widest  int
	bad     bool // may there be Bad lines?
	limit   int  // what lines may be too full by, all together
	counted bool // are sequences kept apart by the number of their lines, also where widths no longer hang on it?
	fewest  int  // lines that a sequence is to have at the end; of use where they are counted
	most    int
	ends    [][]sequence // by their ranks
}

// best: of all lists of breaks; nil, if there is none.
func (p *pricing) best(last bool) *sequence {
	best := least(p.search(false, 0).run())
	if best == nil && last {
		best = least(p.search(true, p.fullest()).run())
	}
	return best
}

// fullest: what lines are too full by that are broken wherever they may be. The best ones are no more so.
func (p *pricing) fullest() int {
	all := make([]int, len(p.breaks)-1)
	for i := range all {
		all[i] = i + 1
	}
	over := 0
	for _, line := range p.cost(all) {
		over += line.Over
	}
	return over
}

// wished: of those that have no more lines than goal, or no fewer, seen from the best one, and no greater burden than it: the
// best of those whose number of lines is nearest to goal.
func (p *pricing) wished(best *sequence, lines int) *sequence {
	goal := lines + p.Looseness
	s := p.search(best.bad > 0, best.over)
	s.counted, s.fewest, s.most = true, min(lines, goal), max(lines, goal)
	ends := slices.DeleteFunc(s.run(), func(q sequence) bool { return q.burden != best.burden })
	nearest := slices.MinFunc(ends, func(a, b sequence) int {
		return cmp.Or(cmp.Compare(far(a.line, goal), far(b.line, goal)), a.compare(&b))
	})
	return &nearest
}

func far(n, from int) int { return max(n-from, from-n) }

// least: of equally good ones the first.
func least(ends []sequence) *sequence {
	if len(ends) == 0 {
		return nil
	}
	best := slices.MinFunc(ends, func(a, b sequence) int { return a.compare(&b) })
	return &best
}

func (p *pricing) search(bad bool, limit int) *search {
	widths := widthsOf(p.Params, len(p.breaks)-1)
	return &search{pricing: p, widths: widths, widest: slices.Max(widths), bad: bad, limit: limit}
}

// run: the sequences that come to the end.
func (s *search) run() []sequence {
	s.ends = [][]sequence{{{state: state{class: decent}}}}
	for to := 1; to < len(s.breaks); to++ {
		s.ends = append(s.ends, s.reach(to))
	}
	return s.ends[len(s.ends)-1]
}

// reach: the sequences that come to a break. They are met by their ranks, so that of equally good ones the first stays.
func (s *search) reach(to int) []sequence {
	r := reached{known: map[state]int{}, least: make([]burden, len(s.widths))}
	for i := range r.least {
		r.least[i].over = math.MaxInt
	}
	for from := s.earliest(to); from < to; from++ {
		s.extend(&r, from, to)
	}
	return r.ranked(s.alike)
}

// earliest: the first break from which a line may come to this one.
func (s *search) earliest(to int) int {
	from := to - 1
lines:
	for ; from > 0; from-- {
		switch {
		case s.breaks[from].forced(): // no line goes across it
			break lines
		case s.hopeless(from, to):
			break lines
		}
	}
	return from
}

// hopeless: is the line from one break to another too full by more than may be, and is each one that begins ahead of it?
func (s *search) hopeless(from, to int) bool {
	a, b := &s.breaks[from], &s.breaks[to]
	if a.first > b.item { // a line without contents is no measure of longer ones
		return false
	}
	all := lengthsOf(grown(s.sides, b.upTo, 1))
	return min(all.natural-a.most.natural, all.shrunk-a.most.shrunk) > s.widest+s.limit
}

// extend: the sequences that end at one break by the line from there to another.
func (s *search) extend(r *reached, from, to int) {
	if len(s.ends[from]) == 0 {
		return
	}
	t := s.line(from, to)
	var line Break
	judgedFor := -1
	for i := range s.ends[from] {
		ahead := &s.ends[from][i]
		if s.counted && !s.counts(ahead.line+1, to) {
			continue
		}
		if n := s.alike(ahead.line); n != judgedFor {
			line, judgedFor = s.priced(from, to, t, s.widths[n]), n
		}
		if (!line.Bad || s.bad) && ahead.over+line.Over <= s.limit {
			next := s.next(ahead, to, &line)
			r.take(&next, s.alike(next.line))
		}
	}
}

// counts: may a sequence of so many lines up to a break have as many at the end as it is to have?
func (s *search) counts(lines, to int) bool {
	left := len(s.breaks) - 1 - to // one break a line at most
	return lines <= s.most && lines+left >= s.fewest
}

// alike: a number of lines, as far as the widths of those to come hang on it.
func (s *search) alike(lines int) int { return min(lines, len(s.widths)-1) }

// next: a sequence with a line more.
func (s *search) next(ahead *sequence, to int, line *Break) sequence {
	next := sequence{state: state{to, ahead.line + 1, line.Class}, burden: ahead.burden, from: ahead}
	if !s.counted {
		next.line = s.alike(next.line)
	}
	if s.AdjDemerits == 0 { // classes make no odds
		next.class = decent
	}
	next.over += line.Over
	if line.Bad {
		next.bad++
	}
	next.demerits = ahead.demerits + line.Demerits + s.apart(line, ahead.class)
	return next
}
