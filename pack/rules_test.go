package pack_test

import (
	"slices"
	"sync"
	"testing"

	"galley/api"
	"galley/pack"
)

// mixed: a row with something of all; upstanding: a column.
func mixed() []api.Node {
	return join(a(), g(), mark("m"), hbox(pt, pt, pt, 0, g(), a()), adjust(kern(7), g()), insert(a(), g()), disc(a(), a(), a()), g(), rule(1, 0, 5, 6))
}

func upstanding() []api.Node {
	return join(hbox(pt, pt, pt, 0, a(), g()), g(), mark("m"), insert(a()), kern(3), skip(5, 1, 2, 1, 1), vbox(pt, pt, 3*pt, 0, kern(4)))
}

// answers: what all calls answer of a list.
type answers struct {
	packed [3]packed
	places []int
	errors api.Errno
}

func asked(l []api.Node, to int) answers {
	var x answers
	x.packed = [3]packed{hpack(l, to, true, 0), vpack(l, to, true, pt), vtop(l, to, false, pt)}
	x.places, x.errors = pack.Places(l, 0)
	return x
}

func (x answers) same(y answers) bool {
	for i := range x.packed {
		if !x.packed[i].same(y.packed[i]) {
			return false
		}
	}
	return slices.Equal(x.places, y.places) && x.errors == y.errors
}

// What is handed in is not changed, nor the room behind it; the same is answered again.
func TestP1Pure(t *testing.T) {
	for _, list := range []func() []api.Node{mixed, upstanding} {
		for _, to := range []int{20 * pt, -pt, 0, most} {
			l, room := list(), api.Node{Kind: 99, Text: "room"}
			l = append(slices.Clone(l), room, room)[:len(l)]
			if first, second := asked(l, to), asked(list(), to); !first.same(second) {
				t.Errorf("%v, then %v", first, second)
			}
			if !slices.Equal(l, list()) {
				t.Error("what was handed in was changed")
			}
			if behind := l[:len(l)+2]; behind[len(l)] != room || behind[len(l)+1] != room {
				t.Error("the room behind what was handed in was changed")
			}
		}
	}
}

// spoil: all of a list, and the room behind it.
func spoil[T any](l []T, with T) {
	l = l[:cap(l)]
	for i := range l {
		l[i] = with
	}
}

// What is answered shares nothing with what was handed in, nor with another answer.
func TestP1Share(t *testing.T) {
	wrong := api.Node{Kind: 99}
	for _, list := range []func() []api.Node{mixed, upstanding, func() []api.Node { return hbox(0, 0, 0, 0, mixed()) }} {
		l := list()
		before, first, second := asked(l, 20*pt), asked(l, 20*pt), asked(l, 20*pt)
		for i := range first.packed {
			spoil(first.packed[i].box, wrong)
			if !slices.Equal(first.packed[i].out, before.packed[i].out) {
				t.Error("what left a row shares with the box")
			}
			spoil(first.packed[i].out, wrong)
		}
		spoil(first.places, -1)
		if !slices.Equal(l, list()) {
			t.Error("an answer shares with what was handed in")
		}
		if !second.same(before) {
			t.Error("two answers share")
		}
		spoil(l, wrong)
		if !second.same(before) {
			t.Error("an answer shares with what was handed in")
		}
	}
	// Nor does a box share with what left it.
	got := row(mixed(), 0, false)
	box := slices.Clone(got.box)
	spoil(got.out, wrong)
	if !slices.Equal(got.box, box) {
		t.Error("the box shares with what left it")
	}
}

// Empty lists mean the same as nil.
func TestP1Empty(t *testing.T) {
	for _, to := range []int{0, 5, -5, most, most + 1} {
		if x, y := asked(nil, to), asked([]api.Node{}, to); !x.same(y) {
			t.Errorf("%v of nil, %v of an empty list", x, y)
		}
	}
}

// Calls at the same time do not meet.
func TestP1Together(t *testing.T) {
	l := mixed()
	want := asked(l, 20*pt)
	var all sync.WaitGroup
	for range 8 {
		all.Go(func() {
			if !asked(l, 20*pt).same(want) {
				t.Error("another answer")
			}
		})
	}
	all.Wait()
}
