package vlist_test

import (
	"fmt"
	"slices"
	"strings"
	"testing"

	"galley/api"
	"galley/vlist"
)

const (
	most  = api.MaxDimen
	awful = 1<<30 - 1
	none  = -65536000
)

func join(parts ...[]api.Node) []api.Node { return slices.Concat(parts...) }

func repeat(l []api.Node, times int) []api.Node { return slices.Repeat(l, times) }

func one(n api.Node) []api.Node { return []api.Node{n} }

func open(n api.Node, contents ...[]api.Node) []api.Node {
	return join(one(n), join(contents...), one(api.Node{Kind: api.End}))
}

func box(h, d int, contents ...[]api.Node) []api.Node {
	return open(api.Node{Kind: api.HBox, W: 30, H: h, D: d, Shift: 2}, contents...)
}

func vbox(h, d int, contents ...[]api.Node) []api.Node {
	return open(api.Node{Kind: api.VBox, W: 20, H: h, D: d}, contents...)
}

func rule(h, d int) []api.Node { return one(api.Node{Kind: api.Rule, W: 9, H: h, D: d}) }

func glued(g api.Glue) []api.Node { return one(api.Node{Kind: api.Skip, Glue: g, Sub: 12}) }

func skip(nat, stretch, shrink int) []api.Node {
	return glued(api.Glue{Nat: nat, Stretch: stretch, Shrink: shrink})
}

// of: a Skip of such glue that comes from there.
func of(g api.Glue, from int) []api.Node { return one(api.Node{Kind: api.Skip, Glue: g, Sub: from}) }

func kern(w int) []api.Node { return one(api.Node{Kind: api.Kern, W: w, Sub: 1}) }

func penalty(q int) []api.Node { return one(api.Node{Kind: api.Penalty, Penalty: q}) }

func mark(text string) []api.Node { return one(api.Node{Kind: api.Mark, Text: text}) }

func special(text string) []api.Node { return one(api.Node{Kind: api.Special, Text: text}) }

func insert(contents ...[]api.Node) []api.Node {
	return open(api.Node{Kind: api.Ins, Sub: 7, H: 99, D: 9, Penalty: 50, Glue: api.Glue{Nat: 5, Stretch: 5, Shrink: 5, ShrinkOrder: 1}}, contents...)
}

func char() []api.Node { return one(api.Node{Kind: api.Char, Char: 'a', W: 5, H: 4, D: 1}) }

// nested: so many boxes around one another, and a list in the midst.
func nested(times int, l []api.Node) []api.Node {
	return join(repeat(one(api.Node{Kind: api.VBox}), times), l, repeat(one(api.Node{Kind: api.End}), times))
}

func nat(n int) api.Glue { return api.Glue{Nat: n} }

// col: the column whose text this is: b a box of 7 and 2, v a VBox of 5 and 1, r a rule of 4 and 3, g a Skip of 3 plus 2 minus 1, k a Kern of 6, p a Penalty of 0, n one of 10000, f one of -10000, m a Mark, s a Special, i an Ins.
func col(text string) []api.Node {
	var l []api.Node
	for i := range len(text) {
		l = append(l, piece(text[i])...)
	}
	return l
}

func piece(c byte) []api.Node {
	switch c {
	case 'b':
		return box(7, 2)
	case 'v':
		return vbox(5, 1)
	case 'r':
		return rule(4, 3)
	case 'g':
		return skip(3, 2, 1)
	case 'k':
		return kern(6)
	case 'p':
		return penalty(0)
	case 'n':
		return penalty(10000)
	case 'f':
		return penalty(-10000)
	case 'm':
		return mark("m")
	case 's':
		return special("s")
	case 'i':
		return insert()
	}
	panic("no piece: " + string(c))
}

// told: a list as text, node by node.
func told(l []api.Node) string {
	names := [18]string{
		"?", "char", "lig", "rule", "hbox", "vbox", "end", "skip", "kern", "penalty",
		"disc", "sep", "mark", "ins", "special", "mathon", "mathoff", "adjust",
	}
	var b strings.Builder
	for _, n := range l {
		fmt.Fprintf(&b, "%s", names[max(0, min(n.Kind, 17))])
		switch n.Kind {
		case api.HBox, api.VBox, api.Rule, api.Ins:
			fmt.Fprintf(&b, "(%d+%d)", n.H, n.D)
		case api.Skip:
			fmt.Fprintf(&b, "%v:%d", n.Glue, n.Sub)
		case api.Kern:
			fmt.Fprintf(&b, "(%d)", n.W)
		case api.Penalty:
			fmt.Fprintf(&b, "(%d)", n.Penalty)
		case api.Mark, api.Special:
			fmt.Fprintf(&b, "(%.9s)", n.Text)
		}
		b.WriteByte(' ')
	}
	return strings.TrimSpace(b.String())
}

func appends(t *testing.T, name string, before int, b []api.Node, baseline, line api.Glue, limit int, want []api.Node, depth int) {
	t.Helper()
	if l, d, e := vlist.Append(before, b, baseline, line, limit); !slices.Equal(l, want) || d != depth || e != api.OK {
		t.Errorf("Append of %s: %.200s, %d, %d; want %.200s, %d", name, told(l), d, e, told(want), depth)
	}
}

func appendsNot(t *testing.T, name string, before int, b []api.Node, baseline, line api.Glue, limit int, want api.Errno) {
	t.Helper()
	if l, d, e := vlist.Append(before, b, baseline, line, limit); len(l) != 0 || d != 0 || e != want {
		t.Errorf("Append of %s: %.200s, %d, %d; want %d alone", name, told(l), d, e, want)
	}
}

func prunes(t *testing.T, name string, l []api.Node, top api.Glue, want ...[]api.Node) {
	t.Helper()
	if got, e := vlist.Prune(l, top); !slices.Equal(got, join(want...)) || e != api.OK {
		t.Errorf("Prune of %s: %.200s, %d; want %.200s", name, told(got), e, told(join(want...)))
	}
}

func prunesNot(t *testing.T, name string, l []api.Node, top api.Glue, want api.Errno) {
	t.Helper()
	if got, e := vlist.Prune(l, top); len(got) != 0 || e != want {
		t.Errorf("Prune of %s: %.200s, %d; want %d alone", name, told(got), e, want)
	}
}

// legal: the places, and the penalties behind them.
func legal(t *testing.T, name string, l []api.Node, at []int, penalty ...int) {
	t.Helper()
	if a, q, e := vlist.Legal(l); !slices.Equal(a, at) || !slices.Equal(q, penalty) || e != api.OK {
		t.Errorf("Legal of %s: %v, %v, %d; want %v, %v", name, a, q, e, at, penalty)
	}
}

func measures(t *testing.T, name string, l []api.Node, to, depth int, want api.Totals, d int) {
	t.Helper()
	if got, k, e := vlist.Size(l, to, depth); got != want || k != d || e != api.OK {
		t.Errorf("Size of %s to %d, %d deep: %v, %d, %d; want %v, %d", name, to, depth, got, k, e, want, d)
	}
}

func measuresNot(t *testing.T, name string, l []api.Node, to, depth int, want api.Errno) {
	t.Helper()
	if got, k, e := vlist.Size(l, to, depth); got != (api.Totals{}) || k != 0 || e != want {
		t.Errorf("Size of %s to %d, %d deep: %v, %d, %d; want %d alone", name, to, depth, got, k, e, want)
	}
}

func costs(t *testing.T, name string, l []api.Node, to, height, depth, want int) {
	t.Helper()
	if got, e := vlist.Cost(l, to, height, depth); got != want || e != api.OK {
		t.Errorf("Cost of %s at %d, %d high, %d deep: %d, %d; want %d", name, to, height, depth, got, e, want)
	}
}

func costsNot(t *testing.T, name string, l []api.Node, to, height, depth int, want api.Errno) {
	t.Helper()
	if got, e := vlist.Cost(l, to, height, depth); got != 0 || e != want {
		t.Errorf("Cost of %s at %d, %d high, %d deep: %d, %d; want %d alone", name, to, height, depth, got, e, want)
	}
}

func best(t *testing.T, name string, l []api.Node, height, depth, at, size, cost int) {
	t.Helper()
	if a, s, c, e := vlist.Best(l, height, depth); a != at || s != size || c != cost || e != api.OK {
		t.Errorf("Best of %s, %d high, %d deep: %d, %d, %d, %d; want %d, %d, %d", name, height, depth, a, s, c, e, at, size, cost)
	}
}

func bestNot(t *testing.T, name string, l []api.Node, height, depth int, want api.Errno) {
	t.Helper()
	if a, s, c, e := vlist.Best(l, height, depth); a != 0 || s != 0 || c != 0 || e != want {
		t.Errorf("Best of %s, %d high, %d deep: %d, %d, %d, %d; want %d alone", name, height, depth, a, s, c, e, want)
	}
}

func splits(t *testing.T, name string, l []api.Node, height, depth int, top api.Glue, first, rest []api.Node) {
	t.Helper()
	if a, b, e := vlist.Split(l, height, depth, top); !slices.Equal(a, first) || !slices.Equal(b, rest) || e != api.OK {
		t.Errorf("Split of %s, %d high, %d deep: %.200s; %.200s; %d; want %.200s; %.200s", name, height, depth, told(a), told(b), e, told(first), told(rest))
	}
}

func splitsNot(t *testing.T, name string, l []api.Node, height, depth int, top api.Glue, want api.Errno) {
	t.Helper()
	if a, b, e := vlist.Split(l, height, depth, top); len(a)+len(b) != 0 || e != want {
		t.Errorf("Split of %s, %d high, %d deep: %.200s; %.200s; %d; want %d alone", name, height, depth, told(a), told(b), e, want)
	}
}

func marks(t *testing.T, name string, l []api.Node, first, last string, some bool) {
	t.Helper()
	if a, b, c, e := vlist.Marks(l); a != first || b != last || c != some || e != api.OK {
		t.Errorf("Marks of %s: %q, %q, %v, %d; want %q, %q, %v", name, a, b, c, e, first, last, some)
	}
}

func marksNot(t *testing.T, name string, l []api.Node, want api.Errno) {
	t.Helper()
	if a, b, c, e := vlist.Marks(l); a != "" || b != "" || c || e != want {
		t.Errorf("Marks of %s: %q, %q, %v, %d; want %d alone", name, a, b, c, e, want)
	}
}

// no column: all calls that take one answer this, and nothing else, whatever else is wrong.
func noColumn(t *testing.T, name string, l []api.Node, want api.Errno) {
	t.Helper()
	if at, q, e := vlist.Legal(l); len(at)+len(q) != 0 || e != want {
		t.Errorf("Legal of %s: %v, %v, %d; want %d alone", name, at, q, e, want)
	}
	marksNot(t, name, l, want)
	for _, other := range []int{0, most + 1, -most - 1} {
		top := nat(other)
		prunesNot(t, name, l, top, want)
		measuresNot(t, name, l, 0, other, want)
		measuresNot(t, name, l, -1, other, want)
		costsNot(t, name, l, 0, other, 0, want)
		costsNot(t, name, l, -1, 0, other, want)
		bestNot(t, name, l, other, 0, want)
		bestNot(t, name, l, 0, other, want)
		splitsNot(t, name, l, other, 0, top, want)
		splitsNot(t, name, l, 0, other, top, want)
	}
}

// wrongLists: some for each of a list's errors.
func wrongLists() map[api.Errno][][]api.Node {
	return map[api.Errno][][]api.Node{
		api.ErrSize: {repeat(kern(1), api.MaxNodes+1), nested(1001, nil), make([]api.Node, api.MaxNodes+1), repeat(char(), api.MaxNodes+1)},
		api.ErrList: {
			{{}}, {{Kind: api.End}}, {{Kind: api.HBox}}, {{Kind: api.Sep}}, {{Kind: 18}}, {{Kind: -1}}, kern(most + 1), box(1, 1)[1:], box(1, 1)[:1],
			join(col("bg"), one(api.Node{Kind: api.Penalty, Penalty: 1 << 31})), glued(nat(most + 1)), join(box(0, 0, kern(-most-1)), col("b")),
		},
		api.ErrDeep: {nested(41, nil), nested(40, kern(1)), join(col("bg"), nested(41, nil)), join(char(), nested(41, nil))},
	}
}

// wrongItems: of each kind that may not stand in a column.
func wrongItems() [][]api.Node {
	sep := one(api.Node{Kind: api.Sep})
	return [][]api.Node{
		char(), one(api.Node{Kind: api.Lig, Text: "fi"}), open(api.Node{Kind: api.Disc}, sep, sep), open(api.Node{Kind: api.Disc}, char(), sep, sep, char()),
		one(api.Node{Kind: api.MathOn}), one(api.Node{Kind: api.MathOff}), open(api.Node{Kind: api.Adjust}), open(api.Node{Kind: api.Adjust}, col("b")),
	}
}

// endless: glue that no column may have.
func endless() []api.Glue {
	var l []api.Glue
	for order := 1; order <= 3; order++ {
		for _, shrink := range []int{1, -1, most, -most} {
			l = append(l, api.Glue{Nat: 5, Shrink: shrink, ShrinkOrder: order})
		}
	}
	return l
}

// wrongGlue: none of it is glue.
func wrongGlue() []api.Glue {
	return []api.Glue{
		{Nat: most + 1}, {Nat: -most - 1}, {Stretch: most + 1}, {Stretch: -most - 1}, {Shrink: most + 1}, {Shrink: -most - 1},
		{StretchOrder: 4}, {StretchOrder: -1}, {ShrinkOrder: 4}, {ShrinkOrder: -1}, {Stretch: 1, StretchOrder: 1 << 32}, {Shrink: 1, ShrinkOrder: -1 << 63},
	}
}

// far: no dimensions.
func far() []int { return []int{most + 1, -most - 1, 1 << 32, -1 << 32, 1<<63 - 1, -1 << 63} }
