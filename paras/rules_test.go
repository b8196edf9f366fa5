package paras_test

import (
	"reflect"
	"slices"
	"sync"
	"testing"

	"galley/api"
	"galley/paras"
)

// roomy: a list with room behind it, which is marked.
func roomy[T any](l []T, x T) []T { return append(slices.Clone(l), x, x)[:len(l)] }

// marked: is the room behind a list as it was?
func marked[T any](l []T, x T) bool { return reflect.DeepEqual(l[:len(l)+2][len(l):], []T{x, x}) }

// spoil: all of a list, and the room behind it.
func spoil[T any](l []T, with T) {
	l = l[:cap(l)]
	for i := range l {
		l[i] = with
	}
}

// answers: of all calls.
type answers struct {
	ended, in      []api.Node
	tried, chosen  paras.Choice
	lines, results paras.Result
	errors         [5]api.Errno
}

func ask(x setting, at []int) answers {
	var a answers
	a.ended, a.errors[0] = paras.End(x.l, x.fill)
	a.tried, a.errors[1] = paras.Try(x.l, x.p, x.s, x.h)
	a.in, a.errors[2] = paras.Contents(x.l, x.p, at[0], at[1])
	a.lines, a.errors[3] = paras.Lines(x.l, x.p, at, x.b)
	a.chosen, a.results, a.errors[4] = x.set()
	return a
}

func (a answers) same(b answers) bool { return reflect.DeepEqual(a, b) }

// spoil: all lists of the answers.
func (a answers) spoil() {
	for _, l := range a.nodes() {
		spoil(l, api.Node{Kind: 99})
	}
	for _, l := range a.numbers() {
		spoil(l, -99)
	}
}

func (a answers) nodes() [][]api.Node {
	return [][]api.Node{a.ended, a.in, a.tried.List, a.chosen.List, a.lines.List, a.results.List}
}

func (a answers) numbers() [][]int {
	return [][]int{a.tried.At, a.chosen.At, a.lines.Lines, a.lines.Bad, a.lines.Over, a.results.Lines, a.results.Bad, a.results.Over}
}

// mixed: a paragraph with something of all, and places in it; in the first pass, the second, or the third.
func mixed(pass int) (setting, []int) {
	l := join(row("aaa_a"), mark("m"), row("_aaa_aba{-|b|}a_"), kern(1, 1), row("_"), insert(row("a_")), row("aaa"), adjust(mark("n"), row("_")), row("_aba_aab_ba_a_"))
	p := params(30, 100)
	p.Left, p.Right, p.Shape = api.Glue{Nat: 1}, api.Glue{Stretch: 2}, [][2]int{{0, 32}, {1, 27}, {2, 30}}
	p.HyphenPenalty = 50
	if pass > 1 {
		p.Pretolerance = -1
	}
	if pass > 2 {
		p.Tolerance, p.Emergency = 3, 6
	}
	if pass < 2 {
		p.Tolerance, p.Pretolerance = 10000, 10000
	}
	return setting{l, fil(), p, paras.Between{Line: 7, Club: 8, Widow: 9, Broken: 10}, setup(), patterns("1b", "aab-a", "a-ab")}, []int{3, 6, 14, len(l)}
}

// What is handed in is not changed, nor the room behind it; the same is answered again.
func TestP1Pure(t *testing.T) {
	for pass := 1; pass <= 3; pass++ {
		x, at := mixed(pass)
		want := ask(x, at)
		if want.errors != [5]api.Errno{} || want.chosen.Pass != pass || len(want.chosen.At) < 3 || want.results.Out == 0 || len(want.in) < 3 {
			t.Fatalf("pass %d: %s; %s; %v", pass, choiceText(want.chosen), resultText(want.results), want.errors)
		}
		n := api.Node{Kind: 99, Text: "room"}
		y, _ := mixed(pass)
		y.l, y.p.Shape, at = roomy(y.l, n), roomy(y.p.Shape, [2]int{98, 99}), roomy(at, 97)
		y.s.Fonts, y.s.Sizes, y.s.Hyphen = roomy(y.s.Fonts, api.Font{Check: 9}), roomy(y.s.Sizes, 9), roomy(y.s.Hyphen, 9)
		for range 3 {
			if got := ask(y, at); !got.same(want) {
				t.Errorf("%v; want %v", got, want)
			}
		}
		if !slices.Equal(y.l, x.l) || !slices.Equal(y.p.Shape, x.p.Shape) || !slices.Equal(at, []int{3, 6, 14, len(x.l)}) || !reflect.DeepEqual(y.s, x.s) {
			t.Error("what was handed in was changed")
		}
		if !marked(y.l, n) || !marked(y.p.Shape, [2]int{98, 99}) || !marked(at, 97) || !marked(y.s.Fonts, api.Font{Check: 9}) || !marked(y.s.Sizes, 9) || !marked(y.s.Hyphen, 9) {
			t.Error("the room behind what was handed in was changed")
		}
		if !slices.Equal(x.h.Patterns(), y.h.Patterns()) || !slices.Equal(x.h.Exceptions(), y.h.Exceptions()) {
			t.Error("the Hyph was changed")
		}
	}
}

// What is answered shares nothing with what was handed in, nor with another answer.
func TestP1Share(t *testing.T) {
	for pass := 1; pass <= 3; pass++ {
		x, at := mixed(pass)
		want := ask(x, at)
		y, _ := mixed(pass)
		there := slices.Clone(at)
		a, b := ask(y, there), ask(y, there)
		spoil(y.l, api.Node{Kind: 99})
		spoil(y.p.Shape, [2]int{99, 99})
		spoil(there, 99)
		if !a.same(want) {
			t.Error("an answer changed with what was handed in")
		}
		a.spoil()
		if !b.same(want) || !ask(x, at).same(want) {
			t.Error("answers share")
		}
	}
}

// No two lists of one answer share anything.
func TestP1Lists(t *testing.T) {
	for pass := 1; pass <= 3; pass++ {
		x, at := mixed(pass)
		want := ask(x, at)
		for i := range want.numbers() {
			got := ask(x, at)
			spoil(got.numbers()[i], -99)
			for k, l := range got.numbers() {
				if k != i && !slices.Equal(l, want.numbers()[k]) {
					t.Errorf("lists %d and %d share", i, k)
				}
			}
		}
		for i := range want.nodes() {
			got := ask(x, at)
			spoil(got.nodes()[i], api.Node{Kind: 99})
			for k, l := range got.nodes() {
				if k != i && !slices.Equal(l, want.nodes()[k]) {
					t.Errorf("lists %d and %d share", i, k)
				}
			}
		}
	}
}

// Empty lists mean the same as nil.
func TestP1Empty(t *testing.T) {
	x := setting{nil, api.Glue{}, params(5, 100), paras.Between{}, setup(), patterns()}
	y := x
	y.l, y.p.Shape = []api.Node{}, [][2]int{}
	a, b := ask(x, []int{-1, 0}), ask(y, []int{-1, 0})
	if !same(a.tried, b.tried) || !same(a.lines, b.lines) || !same(a.chosen, b.chosen) || !same(a.results, b.results) || !slices.Equal(a.ended, b.ended) || !slices.Equal(a.in, b.in) || a.errors != b.errors {
		t.Errorf("%v; %v", a, b)
	}
	if a.errors != [5]api.Errno{3: api.ErrNone} {
		t.Errorf("%v", a.errors)
	}
	linesArent(t, "nothing", nil, params(5, 100), []int{}, paras.Between{}, api.ErrNone)
}

// Calls at the same time do not meet.
func TestP1Together(t *testing.T) {
	x, at := mixed(3)
	want := ask(x, at)
	var all sync.WaitGroup
	for range 8 {
		all.Go(func() {
			for range 20 {
				if !ask(x, at).same(want) {
					t.Error("another answer")
				}
			}
		})
	}
	all.Wait()
}
