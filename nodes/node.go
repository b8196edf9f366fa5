package nodes

import (
	"galley/api"
	"galley/glue"
)

// kinds: one more than the greatest, so that each has its place in an array.
const kinds = api.Adjust + 1

// Bounds of what a node may have.
const (
	mostFraction = 1 << 60 // both numbers of a box's glue
	mostOrder    = 3
	mostSource   = 20 // Sub of a Skip
	mostClass    = 254
	mostText     = 1000 // of a Mark, a Special
)

// Subs of a Rule: what it leaves to the box around it.
const (
	ownSize   = 0
	boxWidth  = 1
	boxHeight = 2 // and the depth, too
	boxAll    = 3
)

// forAccent: the greatest Sub of a Kern.
const forAccent = 2

// node: with what its kind makes of it.
type node api.Node

// right: is it a node?
func right(n api.Node) bool {
	r := rights()
	return r.hold(node(n))
}

// rules: by the kind: are a node's fields what they may be?
type rules [kinds]func(node) bool

func (r *rules) hold(n node) bool {
	return n.Kind >= api.Char && n.Kind <= api.Adjust && r[n.Kind](n)
}

func rights() rules {
	return rules{
		api.Char:    node.char,
		api.Lig:     node.ligature,
		api.Rule:    node.rule,
		api.HBox:    node.box,
		api.VBox:    node.box,
		api.End:     node.bare,
		api.Skip:    node.skip,
		api.Kern:    node.kern,
		api.Penalty: node.penalty,
		api.Disc:    node.bare,
		api.Sep:     node.bare,
		api.Mark:    node.message,
		api.Ins:     node.insert,
		api.Special: node.message,
		api.MathOn:  node.math,
		api.MathOff: node.math,
		api.Adjust:  node.bare,
	}
}

// only: has it nothing but its kind and these fields?
func (n node) only(fields node) bool {
	fields.Kind = n.Kind
	return n == fields
}

func (n node) bare() bool { return n.only(node{}) }

func (n node) char() bool {
	return n.glyph() && n.only(node{Font: n.Font, Char: n.Char, W: n.W, H: n.H, D: n.D})
}

func (n node) ligature() bool {
	return n.glyph() && len(n.Text) >= 1 && len(n.Text) <= api.MaxWord &&
		n.only(node{Font: n.Font, Char: n.Char, W: n.W, H: n.H, D: n.D, Text: n.Text})
}

func (n node) glyph() bool {
	return n.Font >= 0 && n.Font < api.MaxFonts && dimensions(n.W, n.H, n.D)
}

func (n node) rule() bool {
	own := node{W: n.W, H: n.H, D: n.D, Sub: n.Sub}
	switch n.Sub {
	case ownSize:
	case boxWidth:
		own.W = 0
	case boxHeight:
		own.H, own.D = 0, 0
	case boxAll:
		own.W, own.H, own.D = 0, 0, 0
	default:
		return false
	}
	return dimensions(n.W, n.H, n.D) && n.only(own)
}

func (n node) box() bool {
	return dimensions(n.W, n.H, n.D, n.Shift) && n.set() && n.only(node{
		W: n.W, H: n.H, D: n.D, Shift: n.Shift,
		Sign: n.Sign, Order: n.Order, Num: n.Num, Den: n.Den,
	})
}

// set: may a box's glue be set so?
func (n node) set() bool {
	switch n.Sign {
	case api.Still:
		return n.Order == 0 && n.Num == 0 && n.Den == 0
	case api.Stretching, api.Shrinking:
		if n.Sign == api.Shrinking && n.Order == 0 && n.Num > n.Den {
			return false // finite glue shrinks by no more than all that there is
		}
		return n.Order >= 0 && n.Order <= mostOrder &&
			n.Num >= 1 && n.Num <= mostFraction && n.Den >= 1 && n.Den <= mostFraction
	}
	return false
}

func (n node) skip() bool {
	return n.glued() && n.Sub >= 0 && n.Sub <= mostSource && n.only(node{Glue: n.Glue, Sub: n.Sub})
}

func (n node) kern() bool {
	return dimensions(n.W) && n.Sub >= 0 && n.Sub <= forAccent && n.only(node{W: n.W, Sub: n.Sub})
}

func (n node) penalty() bool { return n.priced() && n.only(node{Penalty: n.Penalty}) }

func (n node) message() bool { return len(n.Text) <= mostText && n.only(node{Text: n.Text}) }

func (n node) insert() bool {
	return n.Sub >= 0 && n.Sub <= mostClass && dimensions(n.H, n.D) && n.priced() && n.glued() &&
		n.only(node{Sub: n.Sub, H: n.H, D: n.D, Penalty: n.Penalty, Glue: n.Glue})
}

func (n node) math() bool { return dimensions(n.W) && n.only(node{W: n.W}) }

func (n node) glued() bool { return glue.Check(n.Glue) == api.OK }

func (n node) priced() bool { return n.Penalty >= -api.MaxNumber && n.Penalty <= api.MaxNumber }

// dimensions: are all of these some?
func dimensions(sizes ...int) bool {
	for _, size := range sizes {
		if size < -api.MaxDimen || size > api.MaxDimen {
			return false
		}
	}
	return true
}
