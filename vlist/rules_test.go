package vlist_test

import (
	"reflect"
	"slices"
	"sync"
	"testing"

	"galley/api"
	"galley/vlist"
)

// roomy: a list with room behind it, which is marked.
func roomy(l []api.Node) []api.Node {
	n := api.Node{Kind: 99, Text: "room"}
	return append(slices.Clone(l), n, n)[:len(l)]
}

// marked: is the room behind a list as it was?
func marked(l []api.Node) bool {
	n := api.Node{Kind: 99, Text: "room"}
	return slices.Equal(l[:len(l)+2][len(l):], []api.Node{n, n})
}

// spoil: all of a list, and the room behind it.
func spoil[T any](l []T, with T) {
	l = l[:cap(l)]
	for i := range l {
		l[i] = with
	}
}

// answers: of all calls.
type answers struct {
	appended, bare, pruned, first, rest []api.Node
	at, penalties                       []int
	totals                              api.Totals
	numbers                             [7]int
	texts                               [2]string
	some                                bool
	errors                              [9]api.Errno
}

func ask(l, b []api.Node, to, height int) answers {
	var a answers
	n, e := &a.numbers, &a.errors
	a.appended, n[0], e[0] = vlist.Append(2, b, nat(12), nat(1), 0)
	a.bare, n[1], e[1] = vlist.Append(none, b, nat(12), nat(1), 0)
	a.pruned, e[2] = vlist.Prune(l, upper(10))
	a.at, a.penalties, e[3] = vlist.Legal(l)
	a.totals, n[2], e[4] = vlist.Size(l, to, 2)
	n[3], e[5] = vlist.Cost(l, to, height, 2)
	n[4], n[5], n[6], e[6] = vlist.Best(l, height, 2)
	a.first, a.rest, e[7] = vlist.Split(l, height, 2, upper(10))
	a.texts[0], a.texts[1], a.some, e[8] = vlist.Marks(l)
	return a
}

func (a answers) same(b answers) bool { return reflect.DeepEqual(a, b) }

func (a answers) nodes() [][]api.Node {
	return [][]api.Node{a.appended, a.bare, a.pruned, a.first, a.rest}
}

func (a answers) spoil() {
	for _, l := range a.nodes() {
		spoil(l, api.Node{Kind: 99})
	}
	spoil(a.at, -99)
	spoil(a.penalties, -99)
}

// mixed: columns with something of all, places in them, and heights.
func mixed() (l [][]api.Node, to, height int) {
	return [][]api.Node{
		join(col("bgmvkgr"), penalty(7), col("isgbgmb")), join(col("gkmbsg"), insert(col("gb")), col("bmpgrgb")), col("mbpvbrgb"), join(col("mmmm"), penalty(50), col("mmbgb")),
	}, 4, 15
}

// What is handed in is not changed, nor the room behind it; the same is answered again.
func TestP1Pure(t *testing.T) {
	lists, to, height := mixed()
	for _, l := range lists {
		b := vbox(7, 2, l)
		want := ask(l, b, to, height)
		room, boxRoom := roomy(l), roomy(b)
		for range 3 {
			if got := ask(room, boxRoom, to, height); !got.same(want) {
				t.Errorf("%v; want %v", got, want)
			}
		}
		if !slices.Equal(room, l) || !slices.Equal(boxRoom, b) {
			t.Error("what was handed in was changed")
		}
		if !marked(room) || !marked(boxRoom) {
			t.Error("the room behind what was handed in was changed")
		}
		if len(want.first) == 0 || len(want.rest) == 0 || want.errors[0] != api.OK || want.errors[7] != api.OK || !want.some {
			t.Errorf("%v of %s", want, told(l))
		}
	}
}

// What is answered shares nothing with what was handed in, nor with another answer.
func TestP1Share(t *testing.T) {
	lists, to, height := mixed()
	for _, l := range append(lists, col("mmm"), col("b")) {
		b := vbox(7, 2, l)
		want := ask(l, b, to, height)
		there, boxThere := roomy(l), roomy(b)
		x, y := ask(there, boxThere, to, height), ask(there, boxThere, to, height)
		spoil(there, api.Node{Kind: 99})
		spoil(boxThere, api.Node{Kind: 99})
		if !x.same(want) {
			t.Error("an answer changed with what was handed in")
		}
		x.spoil()
		if !y.same(want) || !ask(l, b, to, height).same(want) {
			t.Error("answers share")
		}
		there = roomy(l)
		ask(there, b, to, height).spoil()
		if !slices.Equal(there, l) || !marked(there) {
			t.Error("what was handed in changed with an answer")
		}
	}
}

// No two lists of one answer share anything.
func TestP1Lists(t *testing.T) {
	lists, to, height := mixed()
	for _, l := range lists {
		want := ask(l, vbox(7, 2, l), to, height)
		for i := range want.nodes() {
			got := ask(l, vbox(7, 2, l), to, height)
			spoil(got.nodes()[i], api.Node{Kind: 99})
			for k, other := range got.nodes() {
				if k != i && !slices.Equal(other, want.nodes()[k]) {
					t.Errorf("lists %d and %d share", i, k)
				}
			}
		}
		got := ask(l, vbox(7, 2, l), to, height)
		spoil(got.at, -99)
		if !slices.Equal(got.penalties, want.penalties) {
			t.Error("places and penalties share")
		}
	}
}

// Calls at the same time do not meet.
func TestP1Together(t *testing.T) {
	lists, to, height := mixed()
	want := ask(lists[0], lists[0], to, height)
	var all sync.WaitGroup
	for range 8 {
		all.Go(func() {
			for range 200 {
				if !ask(lists[0], lists[0], to, height).same(want) {
					t.Error("another answer")
				}
			}
		})
	}
	all.Wait()
}
