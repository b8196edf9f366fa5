package nodes_test

import (
	"slices"
	"strings"
	"testing"

	"galley/api"
	"galley/nodes"
)

const (
	pt   = api.Unity
	most = api.MaxDimen
)

// letters: of each kind one, at the kind's number, so that lists may be told by short texts.
const letters = " afrhv.gkpd|mis+-j"

// plain: a node of each kind that may be; those that have sizes have unlike ones.
func plain(kind int) api.Node {
	n := api.Node{Kind: kind}
	switch kind {
	case api.Char:
		n.Char, n.W, n.H, n.D = 'a', 5*pt, 4*pt, pt
	case api.Lig:
		n.Char, n.W, n.H, n.D, n.Text = 12, 6*pt, 7*pt, 2*pt, "fi"
	case api.Rule:
		n.W, n.H, n.D = 3*pt, 9*pt, 3*pt
	case api.HBox:
		n.W, n.H, n.D = 10*pt, 8*pt, 4*pt
	case api.VBox:
		n.W, n.H, n.D, n.Shift = 20*pt, 6*pt, 5*pt, -pt
	case api.Skip:
		n.Glue = api.Glue{Nat: pt, Stretch: 2 * pt, Shrink: pt / 2}
	case api.Kern, api.MathOn, api.MathOff:
		n.W = kind * pt
	case api.Penalty:
		n.Penalty = 50
	case api.Mark, api.Special:
		n.Text = "t"
	case api.Ins:
		n.H, n.D, n.Sub = 30*pt, 2*pt, 254
	}
	return n
}

// list: of the kinds whose letters these are.
func list(text string) []api.Node {
	var l []api.Node
	for _, c := range []byte(text) {
		l = append(l, plain(strings.IndexByte(letters, c)))
	}
	return l
}

// told: a list as such a text.
func told(l []api.Node) string {
	var b strings.Builder
	for _, n := range l {
		if n.Kind >= 1 && n.Kind <= 17 {
			b.WriteByte(letters[n.Kind])
		} else {
			b.WriteByte('?')
		}
	}
	return b.String()
}

// around: what opens, with contents.
func around(n api.Node, contents ...api.Node) []api.Node {
	return slices.Concat([]api.Node{n}, contents, []api.Node{{Kind: api.End}})
}

// disc: of three lists.
func disc(ahead, behind, unbroken []api.Node) []api.Node {
	sep := []api.Node{{Kind: api.Sep}}
	return around(api.Node{Kind: api.Disc}, slices.Concat(ahead, sep, behind, sep, unbroken)...)
}

// nested: so many of these around one another, and others in the midst.
func nested(n api.Node, times int, l ...api.Node) []api.Node {
	open := slices.Repeat([]api.Node{n}, times)
	return slices.Concat(open, l, slices.Repeat([]api.Node{{Kind: api.End}}, times))
}

func checks(t *testing.T, name string, l []api.Node, want api.Errno) {
	t.Helper()
	if e := nodes.Check(l); e != want {
		t.Errorf("%s: Check of %d nodes = %d; want %d", name, len(l), e, want)
	}
}

// wrongLists: one at least for each of the list's errors.
func wrongLists() map[api.Errno][][]api.Node {
	far := plain(api.Char)
	far.W = 1 << 30
	box := plain(api.HBox)
	return map[api.Errno][][]api.Node{
		api.ErrSize: {
			make([]api.Node, api.MaxNodes+1),
			slices.Repeat(list("a"), api.MaxNodes+1),
			nested(box, 1001),
		},
		api.ErrList: {
			list("."), list("h"), list("|"), list("d."), list("ah"), list("ha.."), {{}}, {far},
			nested(box, 50, api.Node{Kind: 18}), nested(box, 50)[1:],
		},
		api.ErrDeep: {nested(box, 41), nested(box, 40, plain(api.Char)), nested(box, 1000)},
	}
}

// random: numbers, the same ones each time.
type random struct{ state uint64 }

func (r *random) below(n int) int {
	r.state = r.state*6364136223846793005 + 1442695040888963407
	return int(r.state>>33) % n
}

func pick[T any](r *random, l ...T) T { return l[r.below(len(l))] }

// dimension: mostly a small one.
func (r *random) dimension() int {
	if r.below(8) == 0 {
		return pick(r, 0, most, -most, most-1, most/2)
	}
	return (r.below(41) - 20) * pt / 2
}

func (r *random) glue() api.Glue {
	return api.Glue{
		Nat: r.dimension(), Stretch: r.dimension(), Shrink: r.dimension(),
		StretchOrder: r.below(4), ShrinkOrder: r.below(4),
	}
}

func (r *random) text(least int) string {
	b := make([]byte, least+r.below(6))
	for i := range b {
		b[i] = byte(r.below(256))
	}
	return string(b)
}

// node: of a kind, as it may be.
func (r *random) node(kind int) api.Node {
	n := api.Node{Kind: kind}
	switch kind {
	case api.Char, api.Lig:
		n.Font, n.Char, n.W, n.H, n.D = r.below(64), byte(r.below(256)), r.dimension(), r.dimension(), r.dimension()
		if kind == api.Lig {
			n.Text = r.text(1)
		}
	case api.Rule:
		n.Sub, n.W, n.H, n.D = r.below(4), r.dimension(), r.dimension(), r.dimension()
		if n.Sub&1 != 0 {
			n.W = 0
		}
		if n.Sub&2 != 0 {
			n.H, n.D = 0, 0
		}
	case api.HBox, api.VBox:
		n.W, n.H, n.D, n.Shift = r.dimension(), r.dimension(), r.dimension(), pick(r, 0, r.dimension())
		n.Sign = r.below(3)
		if n.Sign != api.Still {
			n.Order, n.Num, n.Den = r.below(4), pick(r, 1, 1<<60, 7), pick(r, 1<<60, 1<<60-1)
		}
		if n.Sign == api.Shrinking && n.Order == 0 {
			n.Num = min(n.Num, n.Den)
		}
	case api.Skip:
		n.Glue, n.Sub = r.glue(), r.below(21)
	case api.Kern:
		n.W, n.Sub = r.dimension(), r.below(3)
	case api.Penalty:
		n.Penalty = pick(r, 0, 10000, -10000, 1<<31-1, -1<<31+1)
	case api.Mark, api.Special:
		n.Text = r.text(0)
	case api.Ins:
		n.Sub, n.H, n.D, n.Penalty, n.Glue = r.below(255), r.dimension(), r.dimension(), r.below(9)-4, r.glue()
	case api.MathOn, api.MathOff:
		n.W = pick(r, 0, r.dimension())
	}
	return n
}

// items: so many of these kinds, with what is in them.
func (r *random) items(kinds string, many, deep int) []api.Node {
	var l []api.Node
	for range many {
		n := r.node(strings.IndexByte(letters, pick(r, []byte(kinds)...)))
		few := 0
		if deep > 0 {
			few = r.below(4)
		}
		switch n.Kind {
		case api.Disc:
			inner := func() []api.Node { return r.items("afkrhv", r.below(few+1), deep-1) }
			l = append(l, disc(inner(), inner(), inner())...)
		case api.HBox, api.VBox, api.Ins, api.Adjust:
			l = append(l, around(n, r.items("afrhvgkpdmis+-j", few, deep-1)...)...)
		default:
			l = append(l, n)
		}
	}
	return l
}

// list: of at most so many items.
func (r *random) list(many int) []api.Node {
	return r.items("afrhvgkpdmis+-jhd", r.below(many+1), r.below(5))
}

// spoilt: the list with something done to it, after which it may be one or not.
func (r *random) spoilt(l []api.Node) []api.Node {
	l = slices.Clone(l)
	if len(l) == 0 {
		return list("|")
	}
	at, to := r.below(len(l)), r.below(len(l))
	switch r.below(5) {
	case 0:
		return slices.Delete(l, at, at+1)
	case 1:
		return slices.Insert(l, at, r.node(1+r.below(17)))
	case 2:
		l[at], l[to] = l[to], l[at]
	case 3:
		l[at] = r.node(1 + r.below(17))
	case 4:
		f := pick(r, fields()...)
		*f.of(&l[at]) = pick(r, 0, 1, -1, 3, most+1, 1<<60+1)
	}
	return l
}

// lists: so many, some of them spoilt.
func (r *random) lists(many int) [][]api.Node {
	l := [][]api.Node{nil, {}}
	for range many {
		l = append(l, r.list(8))
		if r.below(3) == 0 {
			l = append(l, r.spoilt(l[len(l)-1]))
		}
	}
	return l
}
