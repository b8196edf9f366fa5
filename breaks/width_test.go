package breaks_test

import (
	"math"
	"slices"
	"testing"

	"galley/api"
	"galley/breaks"
)

func widthIs(t *testing.T, p api.Params, line, width, indent int) {
	t.Helper()
	if w, i, e := breaks.Width(p, line); w != width || i != indent || e != api.OK {
		t.Errorf("Width of line %d: %d, %d, %d; want %d, %d", line, w, i, e, width, indent)
	}
}

func widthIsnt(t *testing.T, p api.Params, line int, want api.Errno) {
	t.Helper()
	if w, i, e := breaks.Width(p, line); w != 0 || i != 0 || e != want {
		t.Errorf("Width of line %d: %d, %d, %d; want %d", line, w, i, e, want)
	}
}

func TestP904Errors(t *testing.T) {
	shapes := [][][2]int{nil, {{1, 2}}, {{1, 2}, {3, 4}}}
	for _, shape := range shapes {
		p := with(params(5), func(p *api.Params) { p.Shape, p.HangIndent, p.HangAfter = shape, 1, -1 })
		for _, line := range []int{0, -1, -2, -99, math.MinInt, -1 << 32} {
			widthIsnt(t, p, line, api.ErrRange)
			widthIsnt(t, with(p, func(p *api.Params) { p.Looseness = number + 1 }), line, api.ErrArg)
			widthIsnt(t, with(p, func(p *api.Params) { p.Left.StretchOrder = 4 }), line, api.ErrGlue)
		}
		widthIsnt(t, with(p, func(p *api.Params) { p.Hsize = most + 1 }), 1, api.ErrArg)
		widthIsnt(t, with(p, func(p *api.Params) { p.Right = api.Glue{Shrink: 1, ShrinkOrder: 1} }), 1, api.ErrGlue)
	}
	widthIsnt(t, api.Params{Shape: make([][2]int, 2001)}, 1, api.ErrArg)
}

func TestP904Plain(t *testing.T) {
	for _, line := range []int{1, 2, 3, 1000, 1 << 32, math.MaxInt} {
		widthIs(t, params(77), line, 77, 0)
		widthIs(t, params(-77), line, -77, 0)
		widthIs(t, params(most), line, most, 0)
		for _, after := range []int{0, 1, -1, number, -number} {
			widthIs(t, with(params(77), func(p *api.Params) { p.HangAfter = after }), line, 77, 0)
		}
	}
}

func TestP904Shape(t *testing.T) {
	p := params(65 * pt)
	p.Shape = [][2]int{{0, 10 * pt}, {5 * pt, 20 * pt}}
	widthIs(t, p, 9, 20*pt, 5*pt)
	widthIs(t, p, 1, 10*pt, 0)
	for _, line := range []int{2, 3, 2000, 1 << 32, math.MaxInt} {
		widthIs(t, p, line, 20*pt, 5*pt)
	}
	// It goes ahead of HangIndent.
	p.HangIndent, p.HangAfter = 3, -2
	widthIs(t, p, 1, 10*pt, 0)
	widthIs(t, p, 2, 20*pt, 5*pt)
	p.Shape = [][2]int{{-7, -8}}
	widthIs(t, p, 1, -8, -7)
	widthIs(t, p, 2, -8, -7)
	p.Shape = [][2]int{}
	widthIs(t, p, 1, 65*pt-3, 3)
	p.Shape = slices.Repeat([][2]int{{1, 2}}, 2000)
	p.Shape[1998], p.Shape[1999] = [2]int{3, 4}, [2]int{5, 6}
	widthIs(t, p, 1998, 2, 1)
	widthIs(t, p, 1999, 4, 3)
	widthIs(t, p, 2000, 6, 5)
	widthIs(t, p, 2001, 6, 5)
}

func TestP904Hang(t *testing.T) {
	for _, indent := range []int{10, -10, most, -most} {
		hung, in := 100-max(indent, -indent), max(indent, 0)
		for after, lines := range map[int]string{
			0: "hhhhh", 1: "-hhhh", 2: "--hhh", 4: "----h", 5: "-----", number: "-----",
			-1: "h----", -2: "hh---", -4: "hhhh-", -5: "hhhhh", -number: "hhhhh",
		} {
			p := with(params(100), func(p *api.Params) { p.HangIndent, p.HangAfter = indent, after })
			for i, c := range lines {
				if c == 'h' {
					widthIs(t, p, i+1, hung, in)
				} else {
					widthIs(t, p, i+1, 100, 0)
				}
			}
		}
		p := with(params(100), func(p *api.Params) { p.HangIndent, p.HangAfter = indent, number })
		widthIs(t, p, number, 100, 0)
		widthIs(t, p, number+1, hung, in)
		p.HangAfter = -number
		widthIs(t, p, number, hung, in)
		widthIs(t, p, number+1, 100, 0)
		widthIs(t, p, math.MaxInt, 100, 0)
	}
	p := with(params(-most), func(p *api.Params) { p.HangIndent = -most })
	widthIs(t, p, 1, -2*most, 0)
}

func TestP904Random(t *testing.T) {
	r := &random{904}
	for range 20000 {
		p, line := r.params(), r.from(-1, 7)
		w, i, e := breaks.Width(p, line)
		if w2, i2, e2 := plainWidth(p, line); w != w2 || i != i2 || e != e2 {
			t.Fatalf("Width of %v, line %d: %d, %d, %d; want %d, %d, %d", p, line, w, i, e, w2, i2, e2)
		}
	}
}
