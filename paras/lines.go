package paras

import (
	"slices"

	"galley/api"
	"galley/breaks"
	"galley/nodes"
	"galley/pack"
)

// What a line's first and its last Skip come from.
const (
	leftSide  = 8
	rightSide = 9
)

func skip(g api.Glue, from int) []api.Node { return []api.Node{{Kind: api.Skip, Glue: g, Sub: from}} }

// contents: of the line between two breaks of a paragraph.
func contents(l []api.Node, p api.Params, from, to int) []api.Node {
	var left []api.Node
	if p.Left != (api.Glue{}) {
		left = skip(p.Left, leftSide)
	}
	behind, first := beginning(l, from, to)
	return slices.Concat(left, behind, l[first:to], ending(l, to), skip(p.Right, rightSide))
}

// beginning: what a break puts at the beginning of the line behind it, and the first node of that line that stays.
func beginning(l []api.Node, from, to int) (behind []api.Node, first int) {
	if from < 0 {
		return nil, 0
	}
	first = from
	if l[from].Kind == api.Disc {
		_, behind, _, _ = nodes.Parts(l, from)
		first, _ = nodes.Item(l, from)
	}
	// Where the break itself puts something there, nothing falls away. All that does is an item of one node.
	for len(behind) == 0 && first < to && falls(l[first].Kind) {
		first++
	}
	return behind, first
}

func falls(kind int) bool {
	switch kind {
	case api.Skip, api.Kern, api.Penalty, api.MathOn, api.MathOff:
		return true
	}
	return false
}

// ending: what a break puts at the end of the line ahead of it.
func ending(l []api.Node, to int) []api.Node {
	if !isDisc(l, to) {
		return nil
	}
	ahead, _, _, _ := nodes.Parts(l, to)
	return ahead
}

// isDisc: is what is broken at a Disc? (At the end there is nothing.)
func isDisc(l []api.Node, at int) bool { return at < len(l) && l[at].Kind == api.Disc }

// right: may all of these be penalties?
func (b Between) right() bool {
	for _, q := range []int{b.Line, b.Club, b.Widow, b.Broken} {
		if q < -api.MaxNumber || q > api.MaxNumber {
			return false
		}
	}
	return true
}

// behind: the penalty behind a line (from 1 on) that isn't the last one of so many.
func (b Between) behind(line, lines int, broken bool) int {
	q := b.Line
	if line == 1 {
		q += b.Club
	}
	if line == lines-1 {
		q += b.Widow
	}
	if broken {
		q += b.Broken
	}
	return max(-api.MaxNumber, min(q, api.MaxNumber))
}

// stack: the lines so far, and what left them.
type stack struct {
	Result
	left []api.Node
}

// stacked: the lines that end at breaks that are ones.
func stacked(l []api.Node, p api.Params, at []int, b Between) (r Result, e api.Errno) {
	var s stack
	defer s.tell(&r, &e)
	from := -1
	for i, to := range at {
		line := i + 1
		width, indent, _ := breaks.Width(p, line)
		if e := s.put(contents(l, p, from, to), width, indent); e != api.OK {
			return Result{}, e
		}
		if line < len(at) {
			s.part(b.behind(line, len(at), isDisc(l, to)))
		}
		from = to
	}
	// A line that can't be packed counts ahead of too many nodes, though it comes behind them.
	if len(s.List) > api.MaxNodes {
		return Result{}, api.ErrSize
	}
	return Result{}, api.OK
}

// tell: all lines, with how many items are left over from them; beside an error nothing is told.
func (s *stack) tell(r *Result, e *api.Errno) {
	if *e != api.OK {
		return
	}
	s.Out, _ = nodes.Count(s.left)
	*r = s.Result
}

// put: a line, and behind it what left it.
func (s *stack) put(line []api.Node, width, indent int) api.Errno {
	box, out, bad, over, e := pack.Hpack(line, width, true)
	if e != api.OK {
		return e
	}
	box[0].Shift = indent
	s.Lines = append(s.Lines, len(s.List))
	s.Bad = append(s.Bad, bad)
	s.Over = append(s.Over, over)
	s.List = append(append(s.List, box...), out...)
	s.left = append(s.left, out...)
	return api.OK
}

// part: a line from the next one.
func (s *stack) part(penalty int) {
	if penalty != 0 {
		s.List = append(s.List, api.Node{Kind: api.Penalty, Penalty: penalty})
	}
}
