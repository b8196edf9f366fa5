package ligkern

import (
	"galley/api"
	"galley/font"
)

// program: what a font's steps say of each two marks.
type program struct {
	kerns     []int // the font's, but to be read
	there     [codes]bool
	pairs     [marks]*[marks]pair // by the mark ahead; nil, if that has no steps
	ligatures [][2]code           // the pairs that have one: of others there is nothing to find out
}

// pair: of two marks side by side. Its outcome counts only where its state is known.
type pair struct {
	step  api.Step
	found bool
	state state
	outcome
}

type state byte

const (
	unknown state = iota
	begun
	known
)

// outcome: of a row of two marks: the mark ahead of the place, when that has come behind both. It is silent, if the
// place passes no mark on its way there: the mark ahead is then one that was put in for all of them.
type outcome struct {
	ahead  code
	silent bool
}

// programOf: of a font.
func programOf(f api.Font) (*program, api.Errno) {
	if e := font.Check(f); e != api.OK {
		return nil, e
	}
	p := &program{kerns: f.Kerns}
	for c := range codes {
		_, p.there[c] = font.Metric(f, byte(c))
	}
	for x := range code(marks) {
		p.fill(f, x)
	}
	if !p.ends() {
		return nil, api.ErrLoop
	}
	return p, api.OK
}

// fill: with the steps of one mark.
func (p *program) fill(f api.Font, x code) {
	edge := boundary(f)
	for s := range steps(f, x) {
		if p.there[s.Next] {
			p.take(x, code(s.Next), s)
		}
		if int(s.Next) == edge {
			p.take(x, end, s)
		}
	}
}

// take: a step of two marks, unless they have one already: the first one is theirs.
func (p *program) take(x, y code, s api.Step) {
	if p.pairs[x] == nil {
		p.pairs[x] = new([marks]pair)
	}
	q := &p.pairs[x][y]
	if q.found {
		return
	}
	q.step, q.found = s, true
	if q.ligature() {
		p.ligatures = append(p.ligatures, [2]code{x, y})
	}
}

// named: the mark that a number names that came in.
func (p *program) named(n int) (code, bool) {
	if n == none {
		return end, true
	}
	if n < 0 || n >= codes {
		return 0, false
	}
	return code(n), p.there[n]
}

// pair: what is known of two marks.
func (p *program) pair(x, y code) pair {
	if p.pairs[x] == nil {
		return pair{}
	}
	return p.pairs[x][y]
}

// ligature: does it put a character in?
func (q pair) ligature() bool { return q.found && q.step.Op < kernOp }

// ends: does the row of each two marks come to an end?
func (p *program) ends() bool {
	for _, l := range p.ligatures {
		if _, ends := p.settle(l[0], l[1]); !ends {
			return false
		}
	}
	return true
}

// settle finds a pair's outcome out. A row that goes on for ever comes to a pair again whose outcome it is still on its
// way to; as there are no more than so many pairs, no other row does that.
func (p *program) settle(x, y code) (outcome, bool) {
	q := p.pair(x, y)
	if !q.ligature() {
		return outcome{ahead: y}, true
	}
	if q.state != unknown {
		return q.outcome, q.state == known
	}
	p.pairs[x][y].state = begun
	made := [3]code{x, code(q.step.Rest), y}
	from, at, to := cut(q.step.Op)
	o := outcome{ahead: made[at], silent: from == at}
	for _, y := range made[at+1 : to] {
		next, ends := p.settle(o.ahead, y)
		if !ends {
			return outcome{}, false
		}
		o = outcome{ahead: next.ahead, silent: o.silent && next.silent}
	}
	p.pairs[x][y].state, p.pairs[x][y].outcome = known, o
	return o, true
}

// cut: of the three marks x, z and y, of which a ligature z is made of x and y: those from from to ahead of to stay, and
// at is then ahead of the place.
func cut(op byte) (from, at, to int) {
	left, right := int(op>>1&1), int(op&1)
	from, to = 1-left, 2+right
	return from, from + min(int(op>>2), left+right), to
}
