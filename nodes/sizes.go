package nodes

import (
	"iter"

	"galley/api"
	"galley/glue"
)

// measure: by the kind: one of the sizes of what is not glue. Kinds without that size have no method there.
type measure [kinds]func(node) int

func (m *measure) of(n node) int {
	if m[n.Kind] == nil {
		return 0
	}
	return m[n.Kind](n)
}

func (n node) width() int   { return n.W }
func (n node) height() int  { return n.H }
func (n node) depth() int   { return n.D }
func (n node) size() int    { return n.H + n.D }
func (n node) raised() int  { return n.H - n.Shift }
func (n node) lowered() int { return n.D + n.Shift }
func (n node) moved() int   { return n.W + n.Shift }

// along: what items take of a row. (What a Rule leaves to the box, it has as 0.)
func along() measure {
	return measure{
		api.Char: node.width, api.Lig: node.width, api.Rule: node.width,
		api.HBox: node.width, api.VBox: node.width, api.Kern: node.width,
		api.MathOn: node.width, api.MathOff: node.width,
	}
}

// upright: what items take of a column.
func upright() measure {
	return measure{api.Rule: node.size, api.HBox: node.size, api.VBox: node.size, api.Kern: node.width}
}

// above and below: how far items reach from a row's baseline.
func above() measure {
	return measure{
		api.Char: node.height, api.Lig: node.height, api.Rule: node.height,
		api.HBox: node.raised, api.VBox: node.raised,
	}
}

func below() measure {
	return measure{
		api.Char: node.depth, api.Lig: node.depth, api.Rule: node.depth,
		api.HBox: node.lowered, api.VBox: node.lowered,
	}
}

// across: how far items reach from a column's left.
func across() measure {
	return measure{api.Rule: node.width, api.HBox: node.moved, api.VBox: node.moved}
}

// hanging: how far items reach below a column's end.
func hanging() measure {
	return measure{api.Rule: node.depth, api.HBox: node.depth, api.VBox: node.depth}
}

// Totals: along a row, or down a column.
func Totals(l []api.Node, down bool) (api.Totals, api.Errno) {
	o, e := outlineOf(l)
	if e != api.OK {
		return api.Totals{}, e
	}
	if down {
		return totals(o.column(), upright())
	}
	return totals(o.row(), along())
}

func totals(items iter.Seq[node], m measure) (api.Totals, api.Errno) {
	nat := 0
	var skips []api.Glue
	for n := range items {
		if n.Kind == api.Skip {
			skips = append(skips, n.Glue)
		}
		nat += m.of(n)
	}
	t, e := glue.Sum(skips)
	if e != api.OK {
		return api.Totals{}, e
	}
	t.Nat += nat
	if !dimensions(t.Nat) {
		return api.Totals{}, api.ErrArith
	}
	return t, api.OK
}

// Extent: the greatest height and depth of a row; the greatest width of a column, and the depth at its end.
func Extent(l []api.Node, down bool) (a, b int, e api.Errno) {
	o, e := outlineOf(l)
	if e != api.OK {
		return 0, 0, e
	}
	if down {
		a, b = greatest(o.column(), across()), last(o.column(), hanging())
	} else {
		a, b = greatest(o.row(), above()), greatest(o.row(), below())
	}
	if max(a, b) > api.MaxDimen {
		return 0, 0, api.ErrArith
	}
	return a, b, api.OK
}

// greatest: of all, but not below 0.
func greatest(items iter.Seq[node], m measure) int {
	most := 0
	for n := range items {
		most = max(most, m.of(n))
	}
	return most
}

// last: of the last one.
func last(items iter.Seq[node], m measure) int {
	size := 0
	for n := range items {
		size = m.of(n)
	}
	return size
}
