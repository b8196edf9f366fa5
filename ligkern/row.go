package ligkern

import (
	"slices"

	"galley/api"
)

// mark: of a row: how many letters it stands for, and whether it was put in.
type mark struct {
	code code
	n    int
	put  bool
}

// markOf: of what stands in a row from its beginning on.
func markOf(c code) mark {
	if c == end {
		return mark{code: end}
	}
	return mark{code: c, n: 1}
}

// behind: the marks behind the place, the nearest one last, so that they are taken and put where a list is cheap.
type behind struct {
	marks []mark
}

func (b *behind) put(m mark) { b.marks = append(b.marks, m) }

// take: the mark right behind the place, if there is one.
func (b *behind) take() (mark, bool) {
	last := len(b.marks) - 1
	if last < 0 {
		return mark{}, false
	}
	m := b.marks[last]
	b.marks = b.marks[:last]
	return m, true
}

// row: with the place in it. What the place has passed is never looked at again, so it stands as pieces already.
type row struct {
	behind
	ahead  mark
	pieces []api.Piece
}

// add: a piece; false, if there are too many.
func (r *row) add(p api.Piece) bool {
	if len(r.pieces) == api.MaxNodes {
		return false
	}
	r.pieces = append(r.pieces, p)
	return true
}

// pass: a mark; false, if there are too many pieces. An end is none.
func (r *row) pass(m mark) bool {
	if m.code == end {
		return true
	}
	p := api.Piece{Kind: api.Char, Char: byte(m.code), N: m.n}
	if m.put {
		p.Kind = api.Lig
	}
	return r.add(p)
}

// run: what becomes of a row of marks.
func (p *program) run(line []mark) ([]api.Piece, api.Errno) {
	if len(line) == 0 {
		return nil, api.OK
	}
	r := &row{ahead: line[0]}
	for _, m := range slices.Backward(line[1:]) {
		r.put(m)
	}
	if !p.walk(r) {
		return nil, api.ErrSize
	}
	return r.pieces, api.OK
}

// walk takes the place to the row's end; false, if there are too many pieces.
func (p *program) walk(r *row) bool {
walk:
	for {
		y, found := r.take()
		if !found {
			return r.pass(r.ahead)
		}
		q := p.pair(r.ahead.code, y.code)
		if !q.ligature() {
			if !r.pass(r.ahead) || q.found && !r.add(p.kern(q.step)) {
				break walk
			}
			r.ahead = y
			continue
		}
		if q.silent {
			// Not gone through step by step: of these there may be more than any run could do.
			r.ahead = mark{code: q.ahead, n: r.ahead.n + y.n, put: true}
			continue
		}
		made := [3]mark{r.ahead, ligature(q.step, r.ahead, y), y}
		from, at, to := cut(q.step.Op)
		for _, m := range made[from:at] {
			if !r.pass(m) {
				break walk
			}
		}
		r.ahead = made[at]
		for _, m := range slices.Backward(made[at+1 : to]) {
			r.put(m)
		}
	}
	return false
}

// kern: the piece that a step of that kind puts in.
func (p *program) kern(s api.Step) api.Piece {
	return api.Piece{Kind: api.Kern, Size: p.kerns[codes*int(s.Op-kernOp)+int(s.Rest)]}
}

// ligature: the mark that a step puts in; it stands for the letters of those that it takes away.
func ligature(s api.Step, x, y mark) mark {
	z := mark{code: code(s.Rest), put: true}
	from, _, to := cut(s.Op)
	if from == 1 {
		z.n += x.n
	}
	if to == 2 {
		z.n += y.n
	}
	return z
}
