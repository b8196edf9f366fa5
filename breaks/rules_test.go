package breaks_test

import (
	"reflect"
	"slices"
	"sync"
	"testing"

	"galley/api"
	"galley/breaks"
)

// roomy: a list with room behind it, which is marked.
func roomy[T any](l []T, x T) []T { return append(slices.Clone(l), x, x)[:len(l)] }

// marked: is the room behind a list as it was?
func marked[T comparable](l []T, x T) bool {
	behind := l[:len(l)+2][len(l):]
	return behind[0] == x && behind[1] == x
}

// answers: of all calls.
type answers struct {
	check               api.Errno
	at, penalties       []int
	line                api.Totals
	width, indent       int
	badness, class      int
	cost, chosen, loose []breaks.Break
	by                  int
	errors              [6]api.Errno
}

func ask(l []api.Node, p api.Params, at []int) answers {
	a := answers{check: breaks.Check(p)}
	a.at, a.penalties, a.errors[0] = breaks.Legal(l, p)
	a.line, a.errors[1] = breaks.Line(l, p, -1, len(l))
	a.width, a.indent, a.errors[2] = breaks.Width(p, 2)
	a.badness, a.class, _ = breaks.Judge(a.line, a.width)
	a.cost, a.errors[3] = breaks.Cost(l, p, 100, 7, at)
	a.chosen, _, a.errors[4] = breaks.Choose(l, p, 100, 7, true)
	p.Looseness = 1
	a.loose, a.by, a.errors[5] = breaks.Choose(l, p, 10000, 7, true)
	return a
}

func (a answers) same(b answers) bool { return reflect.DeepEqual(a, b) }

// mixed: a paragraph with something of all.
func mixed() []api.Node {
	return join(char(4), skip(2, 1, 1), hyphen(1), char(3), penalty(5), kern(2, 1), skip(2, 1, 1), box(4, char(1), skip(9, 9, 9)), disc(char(1), char(2), char(3)),
		mark(), insert(char(9)), formula(api.MathOn, 1), char(2), formula(api.MathOff, 1), skip(1, 2, 1), char(4), penalty(-10000), char(3), skip(1, 1, 1), char(3), fill(1))
}

func mixedParams() api.Params {
	return api.Params{
		LinePenalty: 10, HyphenPenalty: 50, ExHyphenPenalty: 60, AdjDemerits: 100, DoubleHyphenDemerits: 200, FinalHyphenDemerits: 300,
		Left: api.Glue{Nat: 1}, Right: api.Glue{Stretch: 2}, Shape: [][2]int{{0, 12}, {2, 9}, {1, 14}},
	}
}

// What is handed in is not changed, nor the room behind it; the same is answered again.
func TestP1Pure(t *testing.T) {
	n := api.Node{Kind: 99, Text: "room"}
	l, p := roomy(mixed(), n), mixedParams()
	p.Shape = roomy(p.Shape, [2]int{98, 99})
	at, _, _ := breaks.Legal(mixed(), p)
	at = roomy(at, 97)
	want := ask(mixed(), mixedParams(), slices.Clone(at))
	for range 3 {
		if got := ask(l, p, at); !got.same(want) {
			t.Errorf("%v; want %v", got, want)
		}
	}
	if want.errors != [6]api.Errno{} || len(want.at) < 8 || len(want.cost) < 8 || len(want.chosen) < 3 || want.by != 1 {
		t.Errorf("%v", want)
	}
	if !slices.Equal(l, mixed()) || !slices.Equal(p.Shape, mixedParams().Shape) || !slices.Equal(at, want.at) {
		t.Error("what was handed in was changed")
	}
	if !marked(l, n) || !marked(p.Shape, [2]int{98, 99}) || !marked(at, 97) {
		t.Error("the room behind what was handed in was changed")
	}
}

// spoil: all of a list, and the room behind it.
func spoil[T any](l []T, with T) {
	l = l[:cap(l)]
	for i := range l {
		l[i] = with
	}
}

// What is answered shares nothing with what was handed in, nor with another answer, be it of the same call.
func TestP1Share(t *testing.T) {
	p := mixedParams()
	at, _, _ := breaks.Legal(mixed(), p)
	want := ask(mixed(), mixedParams(), slices.Clone(at))
	l := mixed()
	a, b := ask(l, p, at), ask(l, p, at)
	spoil(l, api.Node{Kind: 99})
	spoil(p.Shape, [2]int{99, 99})
	spoil(at, 99)
	if !a.same(want) {
		t.Error("an answer changed with what was handed in")
	}
	spoil(a.at, -1)
	if !slices.Equal(a.penalties, want.penalties) {
		t.Error("places and penalties share")
	}
	spoil(a.penalties, -1)
	for _, lines := range [][]breaks.Break{a.cost, a.chosen, a.loose} {
		spoil(lines, breaks.Break{At: -1})
	}
	if !b.same(want) || !ask(mixed(), mixedParams(), slices.Clone(want.at)).same(want) {
		t.Error("answers share")
	}
}

// Empty lists mean the same as nil.
func TestP1Empty(t *testing.T) {
	want := ask(nil, params(5), nil)
	p := with(params(5), func(p *api.Params) { p.Shape = [][2]int{} })
	for _, got := range []answers{ask([]api.Node{}, params(5), []int{}), ask(nil, p, []int{}), ask([]api.Node{}, p, nil)} {
		if !got.same(want) {
			t.Errorf("%v; want %v", got, want)
		}
	}
	if want.errors != [6]api.Errno{3: api.ErrNone} {
		t.Errorf("%v", want)
	}
}

// Calls at the same time do not meet.
func TestP1Together(t *testing.T) {
	l, p := mixed(), mixedParams()
	at, _, _ := breaks.Legal(l, p)
	want := ask(l, p, at)
	var all sync.WaitGroup
	for range 8 {
		all.Go(func() {
			for range 20 {
				if !ask(l, p, at).same(want) {
					t.Error("another answer")
				}
			}
		})
	}
	all.Wait()
}
