package pack_test

import (
	"math"
	"slices"
	"testing"

	"galley/api"
	"galley/pack"
)

func places(t *testing.T, name string, l []api.Node, at int, want ...int) {
	t.Helper()
	if got, e := pack.Places(l, at); e != api.OK || !slices.Equal(got, want) {
		t.Errorf("%s: Places of %v at %d = %v, %d; want %v", name, l, at, got, e, want)
	}
}

func noPlaces(t *testing.T, name string, l []api.Node, at int, want api.Errno) {
	t.Helper()
	if got, e := pack.Places(l, at); e != want || len(got) != 0 {
		t.Errorf("%s: Places at %d = %v, %d; want the error %d", name, at, got, e, want)
	}
}

func TestP64Examples(t *testing.T) {
	places(t, "set", hpack(join(a(), g(), a()), 13*pt, true, 0).box, 0, 0, 5*pt, 8*pt)
	places(t, "as it is", hpack(join(a(), g(), a()), 0, false, 0).box, 0, 0, 5*pt, 6*pt)
	places(t, "too full", hpack(join(a(), g(), a()), 9*pt, true, 0).box, 0, 0, 5*pt, 5*pt)
}

// What an item of each kind takes of a row, and of a column.
func TestP64Kinds(t *testing.T) {
	wide := func(kind int) []api.Node { return one(api.Node{Kind: kind, W: 6}) }
	for _, x := range []struct {
		name      string
		item      []api.Node
		row, down int
	}{
		{"Char", char(5, 2, 1), 5, 0}, {"Lig", one(api.Node{Kind: api.Lig, W: 5, H: 3, D: 1, Text: "a"}), 5, 0},
		{"Rule", rule(0, 5, 2, 1), 5, 3}, {"Rule 1", rule(1, 0, 2, 1), 0, 3}, {"Rule 2", rule(2, 5, 0, 0), 5, 0}, {"Rule 3", rule(3, 0, 0, 0), 0, 0},
		{"HBox", hbox(5, 2, 1, 9, kern(30), g()), 5, 3}, {"VBox", vbox(5, 2, 1, -9, kern(30), g()), 5, 3},
		{"Skip", skip(7, 1, 0, 1, 0), 7, 7}, {"Kern", wide(api.Kern), 6, 6}, {"Penalty", one(api.Node{Kind: api.Penalty, Penalty: 9}), 0, 0},
		{"Disc", disc(kern(1), kern(2), join(kern(4), char(8, 50, 50))), 12, 0}, {"Disc", disc(kern(1), kern(2), nil), 0, 0},
		{"Disc of a Disc", disc(hbox(7, 7, 7, 7, disc(kern(1), nil, kern(3))), kern(2), hbox(16, 1, 1, 1, disc(kern(1), kern(1), kern(3)))), 16, 0},
		{"Disc of all", disc(nil, nil, join(rule(0, 1, 9, 9), rule(1, 0, 9, 9), one(api.Node{Kind: api.Lig, W: 2, Text: "a"}), vbox(4, 9, 9, 9))), 7, 0},
		{"Mark", mark("m"), 0, 0}, {"Ins", insert(kern(5), hbox(5, 5, 5, 0)), 0, 0}, {"Special", one(api.Node{Kind: api.Special, Text: "s"}), 0, 0},
		{"MathOn", wide(api.MathOn), 6, 0}, {"MathOff", wide(api.MathOff), 6, 0}, {"Adjust", adjust(kern(5), hbox(5, 5, 5, 0)), 0, 0},
	} {
		l := join(kern(100), x.item, kern(1000), x.item, mark("end"))
		places(t, x.name, hbox(0, 0, 0, 0, l), 0, 0, 100, 100+x.row, 1100+x.row, 1100+2*x.row)
		places(t, x.name, vbox(0, 0, 0, 0, l), 0, 0, 100, 100+x.down, 1100+x.down, 1100+2*x.down)
		places(t, x.name, hbox(0, 0, 0, 0, x.item), 0, 0)
	}
	places(t, "nothing", hbox(5, 5, 5, 5), 0)
	places(t, "nothing", vbox(5, 5, 5, 5), 0)
	// What is below 0 leads back; a place may be past all dimensions.
	places(t, "back", hbox(0, 0, 0, 0, kern(-5), char(3, 0, 0), kern(-most), kern(-most), mark("")), 0, 0, -5, -2, -2-most, -2-2*most)
	places(t, "far", vbox(0, 0, 0, 0, hbox(0, most, most, 0), kern(most), mark("")), 0, 0, 2*most, 3*most)
}

// Skips are set all together: what one loses the next ones win again.
func TestP64Set(t *testing.T) {
	for _, kind := range []int{api.HBox, api.VBox} {
		set := func(sign, order, num, den int, contents ...[]api.Node) []api.Node {
			return open(api.Node{Kind: kind, Sign: sign, Order: order, Num: num, Den: den}, contents...)
		}
		s, m := skip(10, 1, 0, 1, 0), mark("m")
		places(t, "stretching", set(api.Stretching, 0, 5, 3, s, s, s, m), 0, 0, 12, 23, 35)
		places(t, "shrinking", set(api.Shrinking, 0, 2, 3, s, s, s, m), 0, 0, 9, 19, 28)
		places(t, "still", set(api.Still, 0, 0, 0, s, s, s, m), 0, 0, 10, 20, 30)
		places(t, "with others between", set(api.Stretching, 0, 5, 3, s, kern(100), s, m, s, m), 0, 0, 12, 112, 123, 123, 135)
		for order := range 4 {
			one, other := skip(10, 1, order, 1, order), skip(20, 7, (order+1)%4, 7, (order+1)%4)
			places(t, "of that order", set(api.Stretching, order, 5, 3, one, other, one, other, one, m), 0, 0, 12, 32, 43, 63, 75)
			places(t, "of that order", set(api.Shrinking, order, 2, 3, one, other, one, other, one, m), 0, 0, 9, 29, 39, 59, 68)
		}
		unlike := skip(10, 3, 1, 4, 2)
		places(t, "stretch alone", set(api.Stretching, 1, 2, 1, unlike, m), 0, 0, 16)
		places(t, "shrink alone", set(api.Shrinking, 2, 2, 1, unlike, m), 0, 0, 2)
		// Those within its items are set by what is around them.
		inner := hbox(50, 25, 25, 0, s, s)
		places(t, "within", set(api.Stretching, 0, 5, 3, inner, s, adjust(s), s, insert(s), s, m), 0, 0, 50, 62, 62, 73, 73, 85)
		// glue.Sizes takes no fraction of such numbers, nor a share that is so great.
		for _, x := range [][2]int{{1<<46 + 1, 1 << 47}, {1, 1<<46 + 1}, {1 << 60, 1 << 60}} {
			noPlaces(t, "far", set(api.Stretching, 0, x[0], x[1], s), 0, api.ErrRange)
			noPlaces(t, "far", set(api.Shrinking, 0, 1, 1<<46+1, s), 0, api.ErrRange)
			noPlaces(t, "far, of another order", set(api.Stretching, 1, x[0], x[1], kern(1), s, m), 0, api.ErrRange)
		}
		noPlaces(t, "too great", set(api.Stretching, 0, 1<<46, 1, skip(0, 2, 0, 0, 0)), 0, api.ErrArith)
		places(t, "great", set(api.Stretching, 0, 1<<46, 1, s, m), 0, 0, 10+1<<46)
		places(t, "great", set(api.Stretching, 0, 1<<46, 1<<46, s, m), 0, 0, 11)
	}
}

// Boxes within others, and places where none begins.
func TestP64Where(t *testing.T) {
	l := join(
		hbox(0, 0, 0, 0, kern(1), vbox(0, 2, 2, 0, kern(4), kern(5), kern(6)), kern(7)),                                      // 0 to 8
		disc(hbox(0, 0, 0, 0, kern(8), kern(9)), hbox(0, 0, 0, 0, kern(10), kern(11)), hbox(0, 0, 0, 0, kern(12), kern(13))), // 9 to 24
		insert(vbox(0, 0, 0, 0, kern(14), kern(15))), adjust(hbox(0, 0, 0, 0, kern(16), kern(17))),                           // 25 to 36
		hbox(0, 0, 0, 0)) // 37 and 38
	begins := map[int][]int{0: {0, 1, 1}, 2: {0, 4, 9}, 10: {0, 8}, 15: {0, 10}, 20: {0, 12}, 26: {0, 14}, 32: {0, 16}, 37: {}}
	for at := range len(l) {
		if want, box := begins[at]; box {
			places(t, "within", l, at, want...)
		} else {
			noPlaces(t, "no box", l, at, api.ErrNone)
		}
	}
	for _, at := range []int{-1, -2, -39, 39, 40, 1 << 40, math.MaxInt, math.MinInt} {
		noPlaces(t, "outside", l, at, api.ErrNone)
		noPlaces(t, "of nothing", nil, at, api.ErrNone)
	}
	noPlaces(t, "of nothing", nil, 0, api.ErrNone)
	noPlaces(t, "of nothing", []api.Node{}, 0, api.ErrNone)
}

func TestP64Wrong(t *testing.T) {
	for e, lists := range wrongLists() {
		for _, l := range lists {
			for _, at := range []int{0, -1, 1, len(l), math.MaxInt} {
				noPlaces(t, "wrong", l, at, e)
			}
		}
	}
	noPlaces(t, "wrong behind", join(hbox(0, 0, 0, 0), one(api.Node{})), 0, api.ErrList)
	// An item that is no box, though it opens.
	for _, l := range [][]api.Node{insert(g()), adjust(g()), disc(nil, nil, nil), kern(1)} {
		noPlaces(t, "no box", l, 0, api.ErrNone)
	}
}

// What the words say, of many lists, at each of their places.
func TestP64Random(t *testing.T) {
	r := &random{64}
	boxes, set := 0, 0
	for _, l := range r.lists(t, 4000) {
		for at := -1; at <= len(l); at++ {
			want, e := placesPlainly(l, at)
			if e != api.OK {
				noPlaces(t, "no box", l, at, e)
				continue
			}
			places(t, "a box", l, at, want...)
			boxes++
			if len(want) > 1 && l[at].Sign != api.Still {
				set++
			}
		}
	}
	if boxes < 1000 || set < 100 {
		t.Errorf("too few: %d boxes, %d of them set", boxes, set)
	}
}
