package paras

import (
	"slices"

	"galley/api"
	"galley/breaks"
	"galley/hyph"
	"galley/words"
)

// pass: its number, and what breaks are chosen by in it.
type pass struct {
	number, tolerance, extra int
}

// Passes: without hyphens, with them, and with more stretch in each line.
const (
	plain     = 1
	hyphened  = 2
	emergency = 3
)

// passesOf: those that parameters ask for; the last one has to find a way.
func passesOf(p api.Params) []pass {
	var all []pass
	if p.Pretolerance >= 0 {
		all = append(all, pass{number: plain, tolerance: bounded(p.Pretolerance)})
	}
	all = append(all, pass{number: hyphened, tolerance: bounded(p.Tolerance)})
	if p.Emergency > 0 {
		all = append(all, pass{emergency, bounded(p.Tolerance), p.Emergency})
	}
	return all
}

// bounded: a tolerance as Choose takes it; one that is too small is left for it to refuse.
func bounded(tolerance int) int { return min(tolerance, api.MaxDimen) }

// tried: the first pass that does, of a paragraph, a setup and a Hyph that may be.
func tried(l []api.Node, p api.Params, s words.Setup, h *hyph.Hyph) (Choice, api.Errno) {
	list := slices.Clone(l)
	all := passesOf(p)
	last := all[len(all)-1]
passes:
	for _, now := range all {
		if now.number == hyphened {
			var e api.Errno
			if list, e = words.Hyphenate(l, s, h); e != api.OK {
				return Choice{}, e
			}
		}
		chosen, loose, e := breaks.Choose(list, p, now.tolerance, now.extra, now == last)
		switch {
		case e == api.OK:
			return choiceOf(list, now, chosen, loose), api.OK
		case e == api.ErrBreak && now != last:
			continue passes
		}
		return Choice{}, e
	}
	return Choice{}, api.ErrBreak // no pass goes on from the last one
}

func choiceOf(l []api.Node, by pass, chosen []breaks.Break, loose int) Choice {
	c := Choice{List: l, Pass: by.number, Loose: loose}
	for _, line := range chosen {
		c.At = append(c.At, line.At)
		c.Demerits += line.Demerits
	}
	return c
}
