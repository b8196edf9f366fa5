package nodes_test

import (
	"slices"
	"testing"

	"galley/api"
	"galley/nodes"
)

// mixed: a list with something of all.
func mixed() []api.Node { return list("afrhvdaf|k|rhg...gkp.imis+-jh....") }

// answers: what all calls answer of a list.
type answers struct {
	check, item, inside, parts, wrap api.Errno
	end, count                       int
	lists                            [5][]api.Node
	totals                           [2]api.Totals
	extents                          [4]int
	text                             string
}

func asked(l []api.Node, at int) answers {
	var a answers
	a.check = nodes.Check(l)
	a.end, a.item = nodes.Item(l, at)
	a.count, _ = nodes.Count(l)
	a.lists[0], a.inside = nodes.Inside(l, at)
	a.lists[1], a.lists[2], a.lists[3], a.parts = nodes.Parts(l, at)
	a.lists[4], a.wrap = nodes.Wrap(plain(api.VBox), l)
	a.totals[0], _ = nodes.Totals(l, false)
	a.totals[1], _ = nodes.Totals(l, true)
	a.extents[0], a.extents[1], _ = nodes.Extent(l, false)
	a.extents[2], a.extents[3], _ = nodes.Extent(l, true)
	a.text, _ = nodes.Show(l, 9, 9)
	return a
}

func same(a, b answers) bool {
	for i := range a.lists {
		if !alike(a.lists[i], b.lists[i]) {
			return false
		}
		a.lists[i], b.lists[i] = nil, nil
	}
	a.lists, b.lists = [5][]api.Node{}, [5][]api.Node{}
	return a.check == b.check && a.item == b.item && a.inside == b.inside && a.parts == b.parts && a.wrap == b.wrap &&
		a.end == b.end && a.count == b.count && a.totals == b.totals && a.extents == b.extents && a.text == b.text
}

// What is handed in is not changed, nor the room behind it; the same is answered again.
func TestP501Pure(t *testing.T) {
	l := mixed()
	checks(t, "mixed", l, api.OK)
	mark := api.Node{Kind: 99, Text: "room"}
	l = append(slices.Clone(l), mark, mark)[:len(l)]
	for at := -1; at <= len(l); at++ {
		if first, second := asked(l, at), asked(mixed(), at); !same(first, second) {
			t.Errorf("at %d: %v, then %v", at, first, second)
		}
	}
	if !alike(l, mixed()) {
		t.Error("what was handed in was changed")
	}
	if room := l[:len(l)+2]; room[len(l)] != mark || room[len(l)+1] != mark {
		t.Error("the room behind what was handed in was changed")
	}
}

// What is answered shares nothing with what was handed in, nor with another answer, nor the room behind it.
func TestP501Share(t *testing.T) {
	l := mixed()
	for at := range l {
		before := asked(l, at)
		a, b := asked(l, at), asked(l, at)
		for i := range a.lists {
			clear(a.lists[i])
			clear(a.lists[i][:cap(a.lists[i])])
			_ = append(a.lists[i], api.Node{Kind: 99})
			if i > 0 && i < 4 {
				for j := i + 1; j < 4; j++ {
					if !alike(a.lists[j], before.lists[j]) {
						t.Errorf("at %d: the lists %d and %d share", at, i, j)
					}
				}
			}
		}
		if !alike(l, mixed()) {
			t.Fatalf("at %d: an answer shares with the list", at)
		}
		if !same(b, before) {
			t.Errorf("at %d: two answers share", at)
		}
	}
	given := list("ha.")
	wrapped, _ := nodes.Wrap(plain(api.HBox), given)
	inside, _ := nodes.Inside(given, 0)
	clear(given)
	if told(wrapped) != "hha.." || told(inside) != "a" {
		t.Errorf("answers share with what was handed in: %s, %s", told(wrapped), told(inside))
	}
}

// Empty lists mean the same as nil.
func TestP501Empty(t *testing.T) {
	for at := -1; at <= 1; at++ {
		if a, b := asked(nil, at), asked([]api.Node{}, at); !same(a, b) {
			t.Errorf("at %d: %v of nil, %v of an empty list", at, a, b)
		}
		a := asked(nil, at)
		want := answers{item: api.ErrNone, inside: api.ErrNone, parts: api.ErrNone}
		want.lists[4] = around(plain(api.VBox))
		if !same(a, want) {
			t.Errorf("at %d: %v", at, a)
		}
	}
}

// With an error every other answer is zero.
func TestP501Zero(t *testing.T) {
	for e, lists := range wrongLists() {
		for _, l := range lists {
			for _, at := range []int{-1, 0, 1, len(l)} {
				want := answers{check: e, item: e, inside: e, parts: e, wrap: e}
				if a := asked(l, at); !same(a, want) {
					t.Errorf("%d nodes, at %d: %v", len(l), at, a)
				}
			}
		}
	}
}

// Calls at the same time do not meet.
func TestP501Together(t *testing.T) {
	l := mixed()
	want := asked(l, 3)
	done := make(chan bool)
	for range 8 {
		go func() { done <- same(asked(l, 3), want) }()
	}
	for range 8 {
		if !<-done {
			t.Error("another answer")
		}
	}
}
