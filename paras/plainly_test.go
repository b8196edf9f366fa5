package paras_test

import (
	"slices"

	"galley/api"
	"galley/breaks"
	"galley/glue"
	"galley/hyph"
	"galley/nodes"
	"galley/pack"
	"galley/paras"
	"galley/words"
)

// What the chapter's words say, done word for word: what the program answers is held against it.

func plainEnd(l []api.Node, fill api.Glue) ([]api.Node, api.Errno) {
	if e := nodes.Check(l); e != api.OK {
		return nil, e
	}
	if glue.Check(fill) != api.OK {
		return nil, api.ErrGlue
	}
	all := items(l)
	if n := len(all); n > 0 && all[n-1][0].Kind == api.Skip {
		all = all[:n-1]
	}
	ended := append(slices.Concat(all...), api.Node{Kind: api.Penalty, Penalty: 10000}, api.Node{Kind: api.Skip, Glue: fill, Sub: 15})
	if len(ended) > 2000 {
		return nil, api.ErrSize
	}
	return ended, api.OK
}

// plainFirst: the parameters' error, and the paragraph's.
func plainFirst(l []api.Node, p api.Params) api.Errno {
	if e := breaks.Check(p); e != api.OK {
		return e
	}
	if e := nodes.Check(l); e != api.OK {
		return e
	}
	for _, item := range items(l) {
		if n := item[0]; n.Kind == api.Skip && n.Glue.ShrinkOrder > 0 && n.Glue.Shrink != 0 {
			return api.ErrGlue
		}
	}
	return api.OK
}

func plainChoice(l []api.Node, pass int, chosen []breaks.Break, loose int) paras.Choice {
	c := paras.Choice{List: l, Pass: pass, Loose: loose}
	for _, b := range chosen {
		c.At = append(c.At, b.At)
		c.Demerits += b.Demerits
	}
	return c
}

func plainTry(l []api.Node, p api.Params, s words.Setup, h *hyph.Hyph) (paras.Choice, api.Errno) {
	if e := plainFirst(l, p); e != api.OK {
		return paras.Choice{}, e
	}
	if e := words.Check(s); e != api.OK {
		return paras.Choice{}, e
	}
	if _, e := h.Points("a", 1, 1); e != api.OK {
		return paras.Choice{}, api.ErrArg
	}
	if p.Pretolerance >= 0 {
		tolerance := p.Pretolerance
		if tolerance > 1073741823 {
			tolerance = 1073741823
		}
		chosen, loose, e := breaks.Choose(l, p, tolerance, 0, false)
		if e == api.OK {
			return plainChoice(l, 1, chosen, loose), e
		}
		if e != api.ErrBreak {
			return paras.Choice{}, e
		}
	}
	list, e := words.Hyphenate(l, s, h)
	if e != api.OK {
		return paras.Choice{}, e
	}
	if p.Tolerance < 0 {
		return paras.Choice{}, api.ErrRange
	}
	tolerance := p.Tolerance
	if tolerance > 1073741823 {
		tolerance = 1073741823
	}
	chosen, loose, e := breaks.Choose(list, p, tolerance, 0, p.Emergency <= 0)
	if e == api.OK {
		return plainChoice(list, 2, chosen, loose), e
	}
	if e != api.ErrBreak || p.Emergency <= 0 {
		return paras.Choice{}, e
	}
	chosen, loose, e = breaks.Choose(list, p, tolerance, p.Emergency, true)
	if e != api.OK {
		return paras.Choice{}, e
	}
	return plainChoice(list, 3, chosen, loose), e
}

func plainFalls(n api.Node) bool {
	return slices.Contains([]int{api.Skip, api.Kern, api.Penalty, api.MathOn, api.MathOff}, n.Kind)
}

// plainBetween: what stands between two breaks, and what of it falls away.
func plainBetween(l []api.Node, from, to int) (ahead, stays, behind, away []api.Node) {
	falling := from >= 0
	at := 0
	for _, item := range items(l) {
		here := at
		at += len(item)
		if here == to && item[0].Kind == api.Disc {
			behind, _, _, _ = nodes.Parts(l, to)
		}
		if here < from || here >= to {
			continue
		}
		if here == from && item[0].Kind == api.Disc {
			_, ahead, _, _ = nodes.Parts(l, from)
			falling = len(ahead) == 0
			continue
		}
		if falling && plainFalls(item[0]) {
			away = append(away, item...)
			continue
		}
		falling = false
		stays = append(stays, item...)
	}
	return ahead, stays, behind, away
}

func plainContents(l []api.Node, p api.Params, from, to int) ([]api.Node, api.Errno) {
	if _, e := breaks.Line(l, p, from, to); e != api.OK {
		return nil, e
	}
	var line []api.Node
	g := p.Left
	if g.Nat != 0 || g.Stretch != 0 || g.Shrink != 0 || g.StretchOrder != 0 || g.ShrinkOrder != 0 {
		line = append(line, api.Node{Kind: api.Skip, Glue: g, Sub: 8})
	}
	ahead, stays, behind, _ := plainBetween(l, from, to)
	return slices.Concat(line, ahead, stays, behind, []api.Node{{Kind: api.Skip, Glue: p.Right, Sub: 9}}), api.OK
}

func plainPenalty(b paras.Between, line, lines int, broken bool) int {
	q := b.Line
	if line == 1 {
		q += b.Club
	}
	if line == lines-1 {
		q += b.Widow
	}
	if broken {
		q += b.Broken
	}
	if q > 2147483647 {
		return 2147483647
	}
	if q < -2147483647 {
		return -2147483647
	}
	return q
}

func plainLines(l []api.Node, p api.Params, at []int, b paras.Between) (paras.Result, api.Errno) {
	for _, q := range []int{b.Line, b.Club, b.Widow, b.Broken} {
		if q < -2147483647 || q > 2147483647 {
			return paras.Result{}, api.ErrRange
		}
	}
	if _, e := breaks.Cost(l, p, 0, 0, at); e != api.OK {
		return paras.Result{}, e
	}
	var r paras.Result
	from := -1
	for i, to := range at {
		in, e := paras.Contents(l, p, from, to)
		if e != api.OK {
			return paras.Result{}, e
		}
		width, indent, _ := breaks.Width(p, i+1)
		packed, out, bad, over, e := pack.Hpack(in, width, true)
		if e != api.OK {
			return paras.Result{}, e
		}
		packed[0].Shift = indent
		r.Lines, r.Bad, r.Over = append(r.Lines, len(r.List)), append(r.Bad, bad), append(r.Over, over)
		r.List = slices.Concat(r.List, packed, out)
		r.Out += len(items(out))
		if q := plainPenalty(b, i+1, len(at), to < len(l) && l[to].Kind == api.Disc); q != 0 && i+1 < len(at) {
			r.List = append(r.List, api.Node{Kind: api.Penalty, Penalty: q})
		}
		from = to
	}
	if len(r.List) > 2000 {
		return paras.Result{}, api.ErrSize
	}
	return r, api.OK
}

func plainSet(l []api.Node, fill api.Glue, p api.Params, b paras.Between, s words.Setup, h *hyph.Hyph) (paras.Choice, paras.Result, api.Errno) {
	ended, e := paras.End(l, fill)
	if e != api.OK {
		return paras.Choice{}, paras.Result{}, e
	}
	c, e := paras.Try(ended, p, s, h)
	if e != api.OK {
		return paras.Choice{}, paras.Result{}, e
	}
	r, e := paras.Lines(c.List, p, c.At, b)
	if e != api.OK {
		return paras.Choice{}, paras.Result{}, e
	}
	return c, r, e
}
