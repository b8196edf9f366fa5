package pack_test

import (
	"math"
	"testing"

	"galley/api"
)

// far: what comes to more than a dimension, along a row and down a column.
func far() []api.Node { return join(kern(most), kern(1)) }

// columnCalls: the two that take no row.
func columnCalls() map[string]call { return map[string]call{"Vpack": vpack, "Vtop": vtop} }

// The list's error comes first, whatever else is wrong.
func TestP61Wrong(t *testing.T) {
	for name, do := range calls() {
		for e, lists := range wrongLists() {
			for _, l := range lists {
				for _, to := range []int{0, 5, most + 1, math.MinInt} {
					fails(t, name+" of a wrong list", do(l, to, true, to), e)
					fails(t, name+" of a wrong list", do(l, to, false, to), e)
					if len(l) < api.MaxNodes-3 {
						fails(t, name+" of a wrong list, and more", do(join(far(), a(), l), to, true, to), e)
					}
				}
			}
		}
		fails(t, name+", what is no list ahead of a list too deep", do(join(nested(41, nil), one(api.Node{})), 0, true, 0), api.ErrList)
	}
}

// Then what is asked for, then what may stand in a column, then what is too great.
func TestP61First(t *testing.T) {
	for name, do := range calls() {
		fails(t, name+", ErrRange ahead of ErrArith", do(far(), most+1, true, 0), api.ErrRange)
		fails(t, name+", ErrRange ahead of ErrArith", do(far(), -most-1, false, 0), api.ErrRange)
	}
	for name, do := range columnCalls() {
		for _, l := range [][]api.Node{a(), join(far(), adjust())} {
			fails(t, name+", ErrRange ahead of ErrList", do(l, most+1, true, 0), api.ErrRange)
			fails(t, name+", ErrRange ahead of ErrList", do(l, 0, false, -most-1), api.ErrRange)
		}
		fails(t, name+", ErrList ahead of ErrArith", do(join(far(), a()), 0, true, 0), api.ErrList)
		fails(t, name+", ErrList ahead of ErrArith", do(join(kern(most), a()), 1, false, 0), api.ErrList)
	}
}

// What is answered is a list; what isn't, because of the box, is so behind all else.
func TestP69Bounds(t *testing.T) {
	full, deep := repeat(kern(0), api.MaxNodes-2), nested(40, nil)
	for name, do := range calls() {
		if got := do(full, 0, false, 0); got.e != api.OK || len(got.box) != api.MaxNodes {
			t.Errorf("%s of as many as may be: %d nodes, %d", name, len(got.box), got.e)
		}
		if got := do(nested(39, nil), 0, false, 0); got.e != api.OK || len(got.box) != 80 {
			t.Errorf("%s of as deep a list as may be: %d nodes, %d", name, len(got.box), got.e)
		}
		for e, wrong := range map[api.Errno][][]api.Node{
			api.ErrSize: {join(full, kern(0)), join(full, kern(0), kern(0)), join(repeat(kern(0), 1919), nested(40, nil))},
			api.ErrDeep: {deep, join(kern(1), deep), nested(39, kern(1)), join(repeat(kern(0), 1918), deep)},
		} {
			for _, l := range wrong {
				fails(t, name+" of what is a list without the box", do(l, 0, false, 0), e)
				fails(t, name+" of what is a list without the box", do(l, 0, true, 0), e)
				fails(t, name+", ErrRange ahead", do(l, most+1, false, 0), api.ErrRange)
			}
		}
		fails(t, name+", ErrArith ahead of ErrDeep", do(join(deep, far()), 0, true, 0), api.ErrArith)
		fails(t, name+", ErrArith ahead of ErrSize", do(join(full, far()), 0, true, 0), api.ErrArith)
		fails(t, name+", the box's own ErrArith ahead of ErrDeep", do(join(deep, kern(most)), 1, false, 0), api.ErrArith)
		fails(t, name+", the box's own ErrArith ahead of ErrSize", do(join(full, kern(most)), 1, false, 0), api.ErrArith)
	}
	for name, do := range columnCalls() {
		fails(t, name+", ErrRange ahead of ErrDeep", do(deep, 0, false, most+1), api.ErrRange)
		fails(t, name+", ErrList ahead of ErrDeep", do(join(deep, a()), 0, true, 0), api.ErrList)
		fails(t, name+", ErrList ahead of ErrSize", do(repeat(a(), api.MaxNodes), 0, true, 0), api.ErrList)
	}
	low := rule(0, 0, -most, 0)
	fails(t, "Vtop, its D ahead of ErrDeep", vtop(join(low, deep), most, true, 0), api.ErrArith)
	fails(t, "Vtop, its D ahead of ErrSize", vtop(join(low, full, kern(0)), most, true, 0), api.ErrArith)
	fails(t, "Vpack of that", vpack(join(low, deep), most, true, 0), api.ErrDeep)
}

// What leaves a row makes room for the box, and takes its depth along.
func TestP69Leaves(t *testing.T) {
	full, deep := repeat(kern(0), api.MaxNodes-2), nested(40, nil)
	for _, x := range [][2][]api.Node{
		{join(full, mark("m"), mark("m")), join(mark("m"), mark("m"))},
		{join(adjust(), full), nil},
		{join(full[2:], adjust(kern(1), kern(2))), join(kern(1), kern(2))},
		{adjust(nested(39, nil)), nested(39, nil)},
		{insert(nested(39, nil)), insert(nested(39, nil))},
		{adjust(full), full},
	} {
		got := row(x[0], 0, false)
		stays, _ := partedPlainly(x[0])
		rowIs(t, "what leaves", got, api.Node{}, stays, x[1], 0, 0)
	}
	fails(t, "too many stay", row(join(full, kern(0), mark("m")), 0, false), api.ErrSize)
	fails(t, "what stays is too deep", row(join(deep, mark("m")), 0, false), api.ErrDeep)
}
