package nodes_test

import (
	"math"
	"reflect"
	"slices"
	"testing"

	"galley/api"
	"galley/nodes"
)

// alike: the same nodes; none are as good as nil.
func alike(a, b []api.Node) bool { return slices.Equal(a, b) }

func items(t *testing.T, name string, l []api.Node, at, want int, e api.Errno) {
	t.Helper()
	if n, got := nodes.Item(l, at); n != want || got != e {
		t.Errorf("%s: Item(%d nodes, %d) = %d, %d; want %d, %d", name, len(l), at, n, got, want, e)
	}
}

func insides(t *testing.T, name string, l []api.Node, at int, want []api.Node, e api.Errno) {
	t.Helper()
	if got, g := nodes.Inside(l, at); !alike(got, want) || g != e {
		t.Errorf("%s: Inside(%d nodes, %d) = %s, %d; want %s, %d", name, len(l), at, told(got), g, told(want), e)
	}
}

func parts(t *testing.T, name string, l []api.Node, at int, want [3][]api.Node, e api.Errno) {
	t.Helper()
	a, b, c, g := nodes.Parts(l, at)
	if !alike(a, want[0]) || !alike(b, want[1]) || !alike(c, want[2]) || g != e {
		t.Errorf("%s: Parts(%d nodes, %d) = %s, %s, %s, %d; want %s, %s, %s, %d",
			name, len(l), at, told(a), told(b), told(c), g, told(want[0]), told(want[1]), told(want[2]), e)
	}
}

func counts(t *testing.T, name string, l []api.Node, want int, e api.Errno) {
	t.Helper()
	if n, got := nodes.Count(l); n != want || got != e {
		t.Errorf("%s: Count = %d, %d; want %d, %d", name, n, got, want, e)
	}
}

func wraps(t *testing.T, name string, n api.Node, contents, want []api.Node, e api.Errno) {
	t.Helper()
	if l, got := nodes.Wrap(n, contents); !alike(l, want) || got != e {
		t.Errorf("%s: Wrap of %d nodes = %s, %d; want %s, %d", name, len(contents), told(l), got, told(want), e)
	}
}

// places: at which something may be asked for: all there are, and those where nothing can be.
func places(l []api.Node) []int {
	all := []int{-1, -2, -100, math.MinInt, math.MaxInt, -1 << 32, 1 << 32, len(l) + 1, 5000}
	for at := range len(l) + 1 {
		all = append(all, at)
	}
	return all
}

func TestP503Item(t *testing.T) {
	l := list("aha.dg|") // not a list
	items(t, "no list", l, 0, 0, api.ErrList)
	l = list("agha.dka|hf.|r.ji.p.s")
	ends := map[int]int{0: 1, 1: 2, 2: 5, 3: 4, 5: 15, 6: 7, 7: 8, 9: 12, 10: 11, 13: 14, 15: 20, 16: 18, 18: 19, 20: 21}
	for _, at := range places(l) {
		if end, found := ends[at]; found {
			items(t, "an item", l, at, end, api.OK)
		} else {
			items(t, "no item", l, at, 0, api.ErrNone)
		}
	}
	for kind := 1; kind <= 17; kind++ {
		if kind != api.End && kind != api.Sep {
			l := placed(plain(kind))
			items(t, "a kind", l, 0, len(l), api.OK)
			items(t, "its end", l, len(l), 0, api.ErrNone)
		}
	}
	for _, at := range []int{-1, 0, 1} {
		items(t, "nil", nil, at, 0, api.ErrNone)
		items(t, "empty", []api.Node{}, at, 0, api.ErrNone)
	}
}

func TestP503Count(t *testing.T) {
	for text, want := range map[string]int{
		"": 0, "a": 1, "aa": 2, "h.": 1, "haaa.": 1, "ha.a": 2, "d||.": 1, "dk|k|k.d||.": 2, "hvi...jh..p": 3,
		"afrgkpms+-h.v.i.j.d||.": 15,
	} {
		counts(t, text, list(text), want, api.OK)
	}
	counts(t, "full", slices.Repeat(list("a"), 2000), 2000, api.OK)
	counts(t, "full of boxes", slices.Repeat(list("h."), 1000), 1000, api.OK)
	counts(t, "deep", nested(plain(api.HBox), 40), 1, api.OK)
}

func TestP503Inside(t *testing.T) {
	l := list("ha.dka|hf.|r.ji.p.v.s")
	opened := map[int][]api.Node{
		0: list("a"), 3: list("ka|hf.|r"), 7: list("f"), 13: list("i.p"), 14: nil, 18: nil,
	}
	for _, at := range places(l) {
		if want, found := opened[at]; found {
			insides(t, "what opens", l, at, want, api.OK)
		} else {
			insides(t, "what doesn't", l, at, nil, api.ErrNone)
		}
	}
	for kind := 1; kind <= 17; kind++ {
		if kind == api.End || kind == api.Sep {
			continue
		}
		l, e := placed(plain(kind)), api.ErrNone
		var want []api.Node
		if len(l) > 1 {
			want, e = l[1:len(l)-1], api.OK
		}
		insides(t, "a kind", l, 0, want, e)
	}
	insides(t, "nil", nil, 0, nil, api.ErrNone)
}

func TestP503Parts(t *testing.T) {
	l := list("d||." + "da|ff|rrr." + "h" + "dhk.|va.|." + "." + "a")
	lists := map[int][3][]api.Node{
		0:  {},
		4:  {list("a"), list("ff"), list("rrr")},
		15: {list("hk."), list("va."), nil},
	}
	for _, at := range places(l) {
		if want, found := lists[at]; found {
			parts(t, "a Disc", l, at, want, api.OK)
		} else {
			parts(t, "no Disc", l, at, [3][]api.Node{}, api.ErrNone)
		}
	}
	// A Disc in a box in a Disc: the inner Seps are not the outer one's.
	l = list("dhda|f|r.a.a|hd|k|..|v..")
	parts(t, "outer", l, 0, [3][]api.Node{list("hda|f|r.a.a"), list("hd|k|.."), list("v.")}, api.OK)
	parts(t, "first inner", l, 2, [3][]api.Node{list("a"), list("f"), list("r")}, api.OK)
	parts(t, "second inner", l, 14, [3][]api.Node{nil, list("k"), nil}, api.OK)
	for _, text := range []string{"h.", "v.", "i.", "j.", "a", "", "hd||.."} {
		parts(t, text, list(text), 0, [3][]api.Node{}, api.ErrNone)
	}
}

// The list's error comes first, whatever is asked for.
func TestP503Wrong(t *testing.T) {
	for e, lists := range wrongLists() {
		for _, l := range lists {
			counts(t, "wrong", l, 0, e)
			for _, at := range []int{0, 1, -1, len(l), math.MaxInt} {
				items(t, "wrong", l, at, 0, e)
				insides(t, "wrong", l, at, nil, e)
				parts(t, "wrong", l, at, [3][]api.Node{}, e)
			}
		}
	}
}

// What trees say, of all places of many lists.
func TestP503Random(t *testing.T) {
	r := &random{503}
	for _, l := range r.lists(1500) {
		trees, e := grown(l)
		counts(t, told(l), l, len(trees), e)
		for _, at := range places(l) {
			x, found := find(trees, at)
			if e != api.OK {
				items(t, told(l), l, at, 0, e)
				continue
			}
			if !found {
				items(t, told(l), l, at, 0, api.ErrNone)
				insides(t, told(l), l, at, nil, api.ErrNone)
				parts(t, told(l), l, at, [3][]api.Node{}, api.ErrNone)
				continue
			}
			items(t, told(l), l, at, x.to, api.OK)
			if x.lists == nil {
				insides(t, told(l), l, at, nil, api.ErrNone)
			} else {
				insides(t, told(l), l, at, l[x.from+1:x.to-1], api.OK)
			}
			if x.Kind == api.Disc {
				parts(t, told(l), l, at, discParts(l, x), api.OK)
			} else {
				parts(t, told(l), l, at, [3][]api.Node{}, api.ErrNone)
			}
		}
	}
}

// discParts: a Disc's lists, cut where its first two lists are as long as their items are together.
func discParts(l []api.Node, x tree) [3][]api.Node {
	var p [3][]api.Node
	at := x.from + 1
	for i, inner := range x.lists {
		end := at
		for _, y := range inner {
			end = y.to
		}
		p[i] = l[at:end]
		at = end + 1
	}
	return p
}

func TestP504(t *testing.T) {
	a := plain(api.Char)
	for _, kind := range []int{api.HBox, api.VBox, api.Ins, api.Adjust} {
		n := plain(kind)
		for _, text := range []string{"", "a", "ha.", "hv.i..da|k|r.j.", "gkpms+-"} {
			contents := list(text)
			wraps(t, text, n, contents, around(n, contents...), api.OK)
		}
	}
	full := plain(api.HBox)
	full.W, full.Shift, full.Sign, full.Order, full.Num, full.Den = most, -most, api.Shrinking, 3, 1<<60, 1
	wraps(t, "with all it may have", full, []api.Node{a}, []api.Node{full, a, {Kind: api.End}}, api.OK)
}

// What may not be wrapped, or has more than it may have.
func TestP504Wrong(t *testing.T) {
	wrong := []api.Node{{}, {Kind: 18}, {Kind: -1}, {Kind: math.MaxInt}}
	for kind := 1; kind <= 17; kind++ {
		n := plain(kind)
		switch kind {
		case api.HBox, api.VBox, api.Ins, api.Adjust:
			n.Text = "t"
		}
		wrong = append(wrong, n)
	}
	for _, b := range bases() {
		switch b.node.Kind {
		case api.HBox, api.VBox, api.Ins, api.Adjust:
			for _, f := range fields() {
				for _, v := range []int{b.may[f.name][0] - 1, b.may[f.name][1] + 1} {
					n := b.node
					*f.of(&n) = v
					wrong = append(wrong, n)
				}
			}
		}
	}
	for _, n := range wrong {
		wraps(t, "no node that opens", n, list("a"), nil, api.ErrArg)
		wraps(t, "around nothing", n, nil, nil, api.ErrArg)
		// ErrArg comes ahead of the list's error.
		for _, lists := range wrongLists() {
			wraps(t, "around what is wrong, too", n, lists[0], nil, api.ErrArg)
		}
	}
	wraps(t, "a Disc", plain(api.Disc), list("||"), nil, api.ErrArg)
	wraps(t, "a Disc", plain(api.Disc), list("a|a|a"), nil, api.ErrArg)
	for e, lists := range wrongLists() {
		for _, l := range lists {
			for _, kind := range []int{api.HBox, api.VBox, api.Ins, api.Adjust} {
				wraps(t, "what is wrong", plain(kind), l, nil, e)
			}
		}
	}
	wraps(t, "contents of a Disc", plain(api.HBox), list("||"), nil, api.ErrList)
	wraps(t, "contents with an End", plain(api.HBox), list("a."), nil, api.ErrList)
	wraps(t, "contents that close and open", plain(api.HBox), list(".h"), nil, api.ErrList)
}

func TestP504Large(t *testing.T) {
	box, a := plain(api.HBox), plain(api.Char)
	for _, size := range []int{1997, 1998} {
		contents := slices.Repeat(list("a"), size)
		wraps(t, "large", box, contents, around(box, contents...), api.OK)
	}
	for _, size := range []int{1999, 2000} {
		wraps(t, "too large", box, slices.Repeat(list("a"), size), nil, api.ErrSize)
	}
	for _, deep := range []int{38, 39} {
		contents := nested(box, deep)
		wraps(t, "deep", box, contents, around(box, contents...), api.OK)
		contents = nested(box, deep-1, a)
		wraps(t, "deep", box, contents, around(box, contents...), api.OK)
	}
	wraps(t, "too deep", box, nested(box, 40), nil, api.ErrDeep)
	wraps(t, "too deep", box, nested(box, 39, a), nil, api.ErrDeep)
	wraps(t, "too deep", box, nested(box, 38, list("d||a.")...), nil, api.ErrDeep)
	// Too large and too deep: too large comes first.
	both := slices.Concat(nested(box, 40), slices.Repeat(list("a"), 1919))
	checks(t, "both", both, api.OK)
	wraps(t, "both", box, both, nil, api.ErrSize)
	// But contents that are too deep are that, though the whole is too large.
	wraps(t, "contents", box, slices.Concat(nested(box, 41), slices.Repeat(list("a"), 1918)), nil, api.ErrDeep)
}

// A list is its items, one behind the other.
func TestP508Items(t *testing.T) {
	r := &random{508}
	for _, l := range r.lists(1000) {
		if nodes.Check(l) != api.OK {
			continue
		}
		n, _ := nodes.Count(l)
		at := 0
		var again []api.Node
		for range n {
			end, e := nodes.Item(l, at)
			if e != api.OK || end <= at {
				t.Fatalf("%s: Item at %d = %d, %d", told(l), at, end, e)
			}
			counts(t, "an item", l[at:end], 1, api.OK)
			if end-at > 1 && l[at].Kind != api.Disc {
				inside, _ := nodes.Inside(l, at)
				wraps(t, "again", l[at], inside, l[at:end], api.OK)
			}
			again = append(again, l[at:end]...)
			at = end
		}
		if at != len(l) || !alike(again, l) {
			t.Errorf("%s: its items are %s", told(l), told(again))
		}
	}
}

// Wrap of Inside, of what opens within others, too; a Disc is its three lists.
func TestP508Wrap(t *testing.T) {
	r := &random{5080}
	for _, l := range r.lists(1000) {
		if nodes.Check(l) != api.OK {
			continue
		}
		for at, n := range l {
			inside, e := nodes.Inside(l, at)
			if e != api.OK {
				continue
			}
			end, _ := nodes.Item(l, at)
			if n.Kind != api.Disc {
				wraps(t, told(l), n, inside, l[at:end], api.OK)
				continue
			}
			a, b, c, e := nodes.Parts(l, at)
			if e != api.OK || !alike(disc(a, b, c), l[at:end]) {
				t.Errorf("%s: Parts at %d: %s, %s, %s, %d", told(l), at, told(a), told(b), told(c), e)
			}
		}
	}
}

// Two lists, one behind the other.
func TestP508Two(t *testing.T) {
	r := &random{5081}
	a := r.list(8)
	for range 1000 {
		b := r.list(8)
		both := slices.Concat(a, b)
		checks(t, "both", both, api.OK)
		m, _ := nodes.Count(a)
		n, _ := nodes.Count(b)
		counts(t, "both", both, m+n, api.OK)
		for _, down := range []bool{false, true} {
			x, e1 := nodes.Totals(a, down)
			y, e2 := nodes.Totals(b, down)
			z, e := nodes.Totals(both, down)
			if e1 != api.OK || e2 != api.OK {
				continue
			}
			want, wantE := together(x, y)
			if z != want || e != wantE {
				t.Errorf("%s and %s: Totals = %v, %d; want %v, %d", told(a), told(b), z, e, want, wantE)
			}
		}
		a = b
	}
	large := slices.Repeat(list("a"), 1001)
	checks(t, "large", large, api.OK)
	checks(t, "too large together", slices.Concat(large, large), api.ErrSize)
}

func together(x, y api.Totals) (api.Totals, api.Errno) {
	x.Nat += y.Nat
	for i := range x.Stretch {
		x.Stretch[i] += y.Stretch[i]
		x.Shrink[i] += y.Shrink[i]
	}
	if x.Nat < -most || x.Nat > most {
		return api.Totals{}, api.ErrArith
	}
	return x, api.OK
}

// A list without one of its nodes that opens or closes, or parts, is none.
func TestP509Without(t *testing.T) {
	r := &random{509}
	done := 0
	for _, l := range append(r.lists(1500), list("h."), list("hh.."), list("dh.||."), list("jd||..i.")) {
		if nodes.Check(l) != api.OK {
			continue
		}
		for at, n := range l {
			switch n.Kind {
			case api.HBox, api.VBox, api.Ins, api.Adjust, api.Disc, api.End, api.Sep:
				checks(t, told(l), slices.Delete(slices.Clone(l), at, at+1), api.ErrList)
				done++
			}
		}
	}
	if done < 1000 {
		t.Errorf("only %d nodes were taken away", done)
	}
}

// A piece is a list just where it is whole items.
func TestP509Pieces(t *testing.T) {
	r := &random{5090}
	for range 200 {
		l := r.list(5)
		for from := range len(l) + 1 {
			whole := map[int]bool{}
			for at := from; at <= len(l); {
				whole[at] = true
				end, e := nodes.Item(l, at)
				if e != api.OK {
					break
				}
				at = end
			}
			for to := from; to <= len(l); to++ {
				want := api.ErrList
				if whole[to] {
					want = api.OK
				}
				checks(t, told(l[from:to]), l[from:to], want)
			}
		}
	}
}

// What the chapter's examples say.
func TestP503Examples(t *testing.T) {
	a, box := plain(api.Char), api.Node{Kind: api.HBox, W: 10 * pt}
	l := around(box, a)
	items(t, "B", l, 0, 3, api.OK)
	wraps(t, "B", box, []api.Node{a}, l, api.OK)
	insides(t, "B", l, 0, []api.Node{a}, api.OK)
	if !reflect.DeepEqual(l[2], api.Node{Kind: api.End}) {
		t.Error("no End")
	}
}
