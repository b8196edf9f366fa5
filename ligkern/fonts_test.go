package ligkern_test

import (
	"reflect"
	"slices"
	"strconv"
	"testing"

	"galley/api"
	"galley/ligkern"
)

// draft: of a font: the characters that are there, the boundary character (-1: none), and the steps of marks (-1: Left).
// Kern n is 100 n + 100.
type draft struct {
	chars string
	edge  int
	steps map[int][]api.Step
}

// lig: a step that puts a character in; kern: one that puts kern n in.
func lig(next byte, op, rest byte) api.Step { return api.Step{Next: next, Op: op, Rest: rest} }

func kern(next byte, n int) api.Step {
	return api.Step{Next: next, Op: byte(128 + n>>8), Rest: byte(n)}
}

// plain: of characters without steps.
func plain(chars string) draft { return draft{chars, -1, nil} }

// with: and these steps of a mark behind those that it has.
func (d draft) with(x int, l ...api.Step) draft {
	steps := map[int][]api.Step{x: slices.Concat(d.steps[x], l)}
	for y, l := range d.steps {
		if y != x {
			steps[y] = l
		}
	}
	d.steps = steps
	return d
}

func (d draft) bounded(c int) draft {
	d.edge = c
	return d
}

// font: each mark's steps behind one another, the last one with Skip 128. Where there are many, the characters' places
// are those of steps ahead of all, that lead to them.
func (d draft) font() api.Font {
	f := withChars(d.chars)
	for n := range 300 {
		f.Kerns = append(f.Kerns, 100*n+100)
	}
	if d.edge >= 0 {
		f.Steps = append(f.Steps, api.Step{Skip: 255, Next: byte(d.edge)})
	}
	begin := func(x int) { set(&f, byte(x), 1, len(f.Steps)) }
	if d.size() > 250 {
		for x := range 256 {
			if len(d.steps[x]) > 0 {
				begin(x)
				f.Steps = append(f.Steps, api.Step{Skip: 129})
			}
		}
		begin = func(x int) {
			m := f.Chars[x-f.First]
			f.Steps[m.Rest].Op, f.Steps[m.Rest].Rest = byte(len(f.Steps)>>8), byte(len(f.Steps))
		}
	}
	left := len(f.Steps)
	d.add(&f, -1)
	for x := range 256 {
		if len(d.steps[x]) > 0 {
			begin(x)
			d.add(&f, x)
		}
	}
	if len(d.steps[-1]) > 0 {
		f.Steps = append(f.Steps, api.Step{Skip: 255, Op: byte(left >> 8), Rest: byte(left)})
	}
	return f
}

// size: how many steps of marks there are.
func (d draft) size() int {
	n := 0
	for _, l := range d.steps {
		n += len(l)
	}
	return n
}

// add: a mark's steps.
func (d draft) add(f *api.Font, x int) {
	f.Steps = append(f.Steps, d.steps[x]...)
	if len(d.steps[x]) > 0 {
		f.Steps[len(f.Steps)-1].Skip = 128
	}
}

// withChars: a font with just these characters.
func withChars(chars string) api.Font {
	f := api.Font{Design: 10 << 20}
	if chars == "" {
		return f
	}
	f.First = int(slices.Min([]byte(chars)))
	f.Chars = slices.Repeat([]api.Metric{{Tag: -1}}, int(slices.Max([]byte(chars)))-f.First+1)
	for i := range len(chars) {
		f.Chars[int(chars[i])-f.First] = api.Metric{W: 1 << 19}
	}
	return f
}

func set(f *api.Font, c byte, tag, rest int) {
	f.Chars[int(c)-f.First].Tag, f.Chars[int(c)-f.First].Rest = tag, rest
}

// example: the chapter's F.
func example() api.Font {
	return plain("afilv\x0c\x0d").with('f', lig('i', 0, 12), lig('l', 0, 13)).with('a', kern('v', 0)).font()
}

// all: of all characters.
func all() string {
	var l []byte
	for c := range 256 {
		l = append(l, byte(c))
	}
	return string(l)
}

// show: pieces as text: a letter is itself, a ligature has its N behind it, a kern is its number.
func show(l []api.Piece) string {
	text := ""
	for _, p := range l {
		switch p {
		case api.Piece{Kind: api.Char, Char: p.Char, N: 1}:
			text += " " + string(rune(p.Char))
		case api.Piece{Kind: api.Lig, Char: p.Char, N: p.N}:
			text += " " + string(rune(p.Char)) + strconv.Itoa(p.N)
		case api.Piece{Kind: api.Kern, Size: p.Size}:
			text += " " + strconv.Itoa(p.Size)
		default:
			text += " ?"
		}
	}
	if text == "" {
		return ""
	}
	return text[1:]
}

// runs asks what becomes of a word: < at its beginning stands for Left, > at its end for Right.
func runs(t *testing.T, name string, f api.Font, word, want string) {
	t.Helper()
	letters, left, right := word, false, false
	if len(letters) > 0 && letters[0] == '<' {
		letters, left = letters[1:], true
	}
	if len(letters) > 0 && letters[len(letters)-1] == '>' {
		letters, right = letters[:len(letters)-1], true
	}
	l, e := ligkern.Run(f, []byte(letters), left, right)
	if got := show(l); got != want || e != api.OK {
		t.Errorf("%s: Run of %q = %q, %d; want %q", name, word, got, e, want)
	}
}

// pairs asks what becomes of two marks.
func pairs(t *testing.T, name string, f api.Font, left, right int, want string) {
	t.Helper()
	l, e := ligkern.Pair(f, left, right)
	if got := show(l); got != want || e != api.OK {
		t.Errorf("%s: Pair of %d and %d = %q, %d; want %q", name, left, right, got, e, want)
	}
}

// fails: every call of a font, but Check, answers just this error; whatever else is wrong.
func fails(t *testing.T, name string, f api.Font, want api.Errno) {
	t.Helper()
	if e := ligkern.Check(f); e != want {
		t.Errorf("%s: Check = %d; want %d", name, e, want)
	}
	if n, e := ligkern.Boundary(f); n != 0 || e != want {
		t.Errorf("%s: Boundary = %d, %d; want %d alone", name, n, e, want)
	}
	for _, n := range []int{-1, -2, 'a', 300} {
		if s, found, e := ligkern.Find(f, n, 'b'); s != (api.Step{}) || found || e != want {
			t.Errorf("%s: Find of %d = %v, %v, %d; want %d alone", name, n, s, found, e, want)
		}
		if l, e := ligkern.Pair(f, n, 'b'); len(l) != 0 || e != want {
			t.Errorf("%s: Pair of %d = %v, %d; want %d alone", name, n, l, e, want)
		}
	}
	for _, n := range []int{0, 1, 2000, 2001} {
		if l, e := ligkern.Run(f, make([]byte, n), true, true); len(l) != 0 || e != want {
			t.Errorf("%s: Run of %d letters = %v, %d; want %d alone", name, n, l, e, want)
		}
	}
}

// clone shares nothing with f.
func clone(f api.Font) api.Font {
	f.Chars, f.Steps, f.Kerns = slices.Clone(f.Chars), slices.Clone(f.Steps), slices.Clone(f.Kerns)
	f.Pieces, f.Params = slices.Clone(f.Pieces), slices.Clone(f.Params)
	return f
}

func same(f, g api.Font) bool { return reflect.DeepEqual(f, g) }

// random: numbers, the same ones each time.
type random struct{ state uint64 }

func (r *random) below(n int) int {
	r.state = r.state*6364136223846793005 + 1442695040888963407
	return int(r.state>>33) % n
}

func (r *random) pick(text string) byte { return text[r.below(len(text))] }

// word: of so many of these letters, at most.
func (r *random) word(letters string, most int) []byte {
	var l []byte
	for range r.below(most + 1) {
		l = append(l, r.pick(letters))
	}
	return l
}

// font: of the letters a to c, any of whose steps may be whatever it may.
func (r *random) font() api.Font {
	f := withChars("abc")
	f.Kerns = []int{-1, 1, 0}
	steps := 1 + r.below(10)
	edge := r.pick("abcxxx")
	if r.below(2) == 0 {
		f.Steps = append(f.Steps, api.Step{Skip: 255, Next: edge, Op: byte(r.below(3)), Rest: byte(r.below(256))})
		if r.below(2) == 0 {
			f.Steps[0].Op, f.Steps[0].Rest = 0, byte(r.below(steps))
		}
	}
	for len(f.Steps) < steps {
		f.Steps = append(f.Steps, r.step(len(f.Steps), steps, len(f.Steps) > 0 && f.Steps[0].Skip == 255, edge))
	}
	if steps > 1 && r.below(2) == 0 {
		f.Steps[steps-1] = api.Step{Skip: 255, Next: byte(r.below(256)), Rest: byte(r.below(steps))}
	}
	for i := range f.Chars {
		if r.below(4) > 0 {
			f.Chars[i].Tag, f.Chars[i].Rest = 1, r.below(steps)
		}
	}
	return f
}

// step: at a place among so many.
func (r *random) step(at, steps int, edged bool, edge byte) api.Step {
	if r.below(6) == 0 {
		return api.Step{Skip: byte(129 + r.below(126)), Next: byte(r.below(256)), Rest: byte(r.below(steps))}
	}
	s := api.Step{Skip: 128, Next: r.pick("abc"), Op: byte(r.below(16)), Rest: r.pick("abc")}
	if ahead := steps - at - 1; ahead > 0 && r.below(4) > 0 {
		s.Skip = byte(r.below(min(ahead, 2)))
	}
	if edged && r.below(3) == 0 {
		s.Next = edge
	}
	if r.below(3) == 0 {
		s.Op, s.Rest = 128, byte(r.below(3))
	}
	return s
}
