package glue_test

import (
	"math"
	"math/big"
	"testing"

	"galley/api"
	"galley/glue"
)

const pt = api.Unity

// answer: a glue, or an error.
type answer struct {
	g api.Glue
	e api.Errno
}

func one(g api.Glue, e api.Errno) answer { return answer{g, e} }
func wrong(e api.Errno) answer           { return answer{e: e} }

// of: a glue by its parts, as they are written: size, stretch and its order, shrink and its order.
func of(nat, stretch, stretchOrder, shrink, shrinkOrder int) api.Glue {
	return api.Glue{Nat: nat, Stretch: stretch, StretchOrder: stretchOrder, Shrink: shrink, ShrinkOrder: shrinkOrder}
}

func right(nat, stretch, stretchOrder, shrink, shrinkOrder int) answer {
	return answer{of(nat, stretch, stretchOrder, shrink, shrinkOrder), api.OK}
}

// random: numbers that a short rule spreads over all sizes.
type random struct{ x uint64 }

func (r *random) below(n int) int {
	r.x = r.x*6364136223846793005 + 1442695040888963407
	return int(r.x>>1) >> 8 % n
}

// size: from -MaxDimen to MaxDimen, as often small as great, as often 0.
func (r *random) size() int {
	return (r.below(2*api.MaxDimen+1) - api.MaxDimen) >> r.below(31) * min(1, r.below(4))
}

func (r *random) glue() api.Glue {
	return of(r.size(), r.size(), r.below(4), r.size(), r.below(4))
}

func positive(g api.Glue) api.Glue {
	g.Stretch, g.Shrink = max(g.Stretch, -g.Stretch), max(g.Shrink, -g.Shrink)
	return g
}

// tidy: as the sums and products leave a glue: what is 0 has no order.
func tidy(g api.Glue) api.Glue {
	if g.Stretch == 0 {
		g.StretchOrder = 0
	}
	if g.Shrink == 0 {
		g.ShrinkOrder = 0
	}
	return g
}

// wrongGlues: each is wrong in one field alone.
func wrongGlues() []api.Glue {
	var l []api.Glue
	for _, n := range []int{api.MaxDimen + 1, -api.MaxDimen - 1, 1 << 32, -1 << 32, math.MaxInt, math.MinInt} {
		l = append(l, of(n, 1, 1, 1, 1), of(1, n, 1, 1, 1), of(1, 1, 1, n, 1))
	}
	for _, n := range []int{-1, 4, 5, 1 << 32, -1 << 32, math.MaxInt, math.MinInt} {
		l = append(l, of(1, 1, n, 1, 1), of(1, 1, 1, 1, n), of(0, 0, n, 0, 0), of(0, 0, 0, 0, n))
	}
	return l
}

// edgeGlues: all are right.
func edgeGlues() []api.Glue {
	l := []api.Glue{{}}
	for _, n := range []int{api.MaxDimen, -api.MaxDimen} {
		l = append(l, of(n, 0, 0, 0, 0), of(0, n, 0, 0, 0), of(0, 0, 0, n, 0), of(n, n, 3, n, 3))
	}
	for order := range 4 {
		l = append(l, of(1, 1, order, 1, 0), of(1, 1, 0, 1, order), of(0, 0, order, 0, order))
	}
	return l
}

func TestP21Check(t *testing.T) {
	for _, g := range edgeGlues() {
		if e := glue.Check(g); e != api.OK {
			t.Errorf("Check(%v) = %d", g, e)
		}
	}
	for _, g := range wrongGlues() {
		if e := glue.Check(g); e != api.ErrGlue {
			t.Errorf("Check(%v) = %d; want ErrGlue", g, e)
		}
	}
}

// A wrong glue comes ahead of everything else that is wrong.
func TestP21First(t *testing.T) {
	great := of(api.MaxDimen, api.MaxDimen, 0, api.MaxDimen, 0)
	for _, g := range wrongGlues() {
		for name, got := range map[string]answer{
			"Plus(g, great)":   one(glue.Plus(g, great)),
			"Plus(great, g)":   one(glue.Plus(great, g)),
			"Plus(g, g)":       one(glue.Plus(g, g)),
			"Plus(g, {})":      one(glue.Plus(g, api.Glue{})),
			"Plus({}, g)":      one(glue.Plus(api.Glue{}, g)),
			"Times(g, 0)":      one(glue.Times(g, 0)),
			"Times(g, 1)":      one(glue.Times(g, 1)),
			"Times(g, MaxInt)": one(glue.Times(g, math.MaxInt)),
			"Over(g, 0)":       one(glue.Over(g, 0)),
			"Over(g, 1)":       one(glue.Over(g, 1)),
			"Over(g, MinInt)":  one(glue.Over(g, math.MinInt)),
		} {
			if got != wrong(api.ErrGlue) {
				t.Errorf("%s of %v = %v; want ErrGlue alone", name, g, got)
			}
		}
	}
}

func TestP22(t *testing.T) {
	a, f := of(10*pt, 2*pt, 0, pt, 0), of(0, pt, 1, 0, 0)
	for _, x := range []struct {
		a, b api.Glue
		want answer
	}{
		{a, a, right(20*pt, 4*pt, 0, 2*pt, 0)},
		{a, f, right(10*pt, pt, 1, pt, 0)},
		{f, f, right(0, 2*pt, 1, 0, 0)},
		{api.Glue{}, api.Glue{}, right(0, 0, 0, 0, 0)},
		{a, api.Glue{}, right(10*pt, 2*pt, 0, pt, 0)},
		// of two orders the greater
		{of(1, 5, 1, 7, 2), of(2, 6, 2, 8, 1), right(3, 6, 2, 7, 2)},
		{of(1, 5, 2, 7, 3), of(2, 6, 3, 8, 3), right(3, 6, 3, 15, 3)},
		{of(1, 5, 0, 7, 3), of(2, -1, 1, 8, 0), right(3, -1, 1, 7, 3)},
		// but what is 0 has no say, whatever its order is
		{of(1, 5, 1, 7, 0), of(2, 0, 3, 0, 2), right(3, 5, 1, 7, 0)},
		{of(1, 0, 3, 0, 1), of(2, 5, 2, 7, 0), right(3, 5, 2, 7, 0)},
		{of(1, 0, 3, 0, 2), of(2, 0, 1, 0, 2), right(3, 0, 0, 0, 0)},
		// sums of 0 have no order
		{of(1, 5, 3, 7, 2), of(-1, -5, 3, -7, 2), right(0, 0, 0, 0, 0)},
		{of(1, 5, 3, 7, 2), of(-1, -5, 3, -7, 1), right(0, 0, 0, 7, 2)},
		// bounds
		{of(api.MaxDimen-1, 0, 0, 0, 0), of(1, 0, 0, 0, 0), right(api.MaxDimen, 0, 0, 0, 0)},
		{of(api.MaxDimen, 0, 0, 0, 0), of(1, 0, 0, 0, 0), wrong(api.ErrArith)},
		{of(1-api.MaxDimen, 0, 0, 0, 0), of(-1, 0, 0, 0, 0), right(-api.MaxDimen, 0, 0, 0, 0)},
		{of(-api.MaxDimen, 0, 0, 0, 0), of(-1, 0, 0, 0, 0), wrong(api.ErrArith)},
		{of(1, api.MaxDimen-1, 1, 0, 0), of(1, 1, 1, 0, 0), right(2, api.MaxDimen, 1, 0, 0)},
		{of(1, api.MaxDimen, 1, 0, 0), of(1, 1, 1, 0, 0), wrong(api.ErrArith)},
		{of(1, api.MaxDimen, 1, 0, 0), of(1, 1, 2, 0, 0), right(2, 1, 2, 0, 0)},
		{of(1, -api.MaxDimen, 0, 0, 0), of(1, -1, 0, 0, 0), wrong(api.ErrArith)},
		{of(1, 0, 0, api.MaxDimen-1, 3), of(1, 0, 0, 1, 3), right(2, 0, 0, api.MaxDimen, 3)},
		{of(1, 0, 0, api.MaxDimen, 3), of(1, 0, 0, 1, 3), wrong(api.ErrArith)},
		{of(1, 0, 0, api.MaxDimen, 3), of(1, 0, 0, 1, 2), right(2, 0, 0, api.MaxDimen, 3)},
		{of(1, 0, 0, -api.MaxDimen, 2), of(1, 0, 0, -1, 2), wrong(api.ErrArith)},
	} {
		if got := one(glue.Plus(x.a, x.b)); got != x.want {
			t.Errorf("Plus(%v, %v) = %v; want %v", x.a, x.b, got, x.want)
		}
		if got := one(glue.Plus(x.b, x.a)); got != x.want {
			t.Errorf("Plus(%v, %v) = %v; want %v", x.b, x.a, got, x.want)
		}
	}
}

func TestP23Times(t *testing.T) {
	a, great := of(10*pt, 2*pt, 0, pt, 0), of(api.MaxDimen, 0, 0, 0, 0)
	for _, x := range []struct {
		g    api.Glue
		n    int
		want answer
	}{
		{a, -1, right(-10*pt, -2*pt, 0, -pt, 0)},
		{a, 3, right(30*pt, 6*pt, 0, 3*pt, 0)},
		{of(1, 2, 3, 4, 2), 5, right(5, 10, 3, 20, 2)},
		{of(1, 2, 3, 4, 2), 0, right(0, 0, 0, 0, 0)},
		{of(1, 0, 3, 0, 2), 2, right(2, 0, 0, 0, 0)},
		{of(1, 0, 3, 4, 2), 1, right(1, 0, 0, 4, 2)},
		{great, 1, right(api.MaxDimen, 0, 0, 0, 0)},
		{great, -1, right(-api.MaxDimen, 0, 0, 0, 0)},
		{great, 2, wrong(api.ErrArith)},
		{of(32768, 0, 0, 0, 0), 32768, wrong(api.ErrArith)},
		{of(32768, 0, 0, 0, 0), -32768, wrong(api.ErrArith)},
		{of(32767, 0, 0, 0, 0), 32769, right(api.MaxDimen, 0, 0, 0, 0)},
		{of(1, 32767, 3, 1, 0), 32769, right(32769, api.MaxDimen, 3, 32769, 0)},
		{of(1, 32768, 3, 1, 0), 32768, wrong(api.ErrArith)},
		{of(1, 1, 3, 32768, 1), 32768, wrong(api.ErrArith)},
		{of(1, 0, 0, 0, 0), api.MaxDimen, right(api.MaxDimen, 0, 0, 0, 0)},
		{of(1, 0, 0, 0, 0), api.MaxDimen + 1, wrong(api.ErrArith)},
		{of(-1, 0, 0, 0, 0), api.MaxDimen + 1, wrong(api.ErrArith)},
		// whatever the number, nothing so many times is nothing
		{of(0, 0, 3, 0, 2), math.MaxInt, right(0, 0, 0, 0, 0)},
		{of(0, 0, 1, 0, 0), math.MinInt, right(0, 0, 0, 0, 0)},
		{of(0, 0, 0, 0, 0), api.MaxNumber + 1, right(0, 0, 0, 0, 0)},
		// products that would wrap round
		{of(1, 0, 0, 0, 0), math.MaxInt, wrong(api.ErrArith)},
		{of(2, 0, 0, 0, 0), math.MinInt, wrong(api.ErrArith)},
		{of(0, 4, 0, 0, 0), 1 << 62, wrong(api.ErrArith)},
		{of(0, 0, 0, -2, 0), math.MinInt, wrong(api.ErrArith)},
		{of(65536, 0, 0, 0, 0), 1 << 48, wrong(api.ErrArith)},
		{of(1, 0, 0, 0, 0), 1<<32 + 1, wrong(api.ErrArith)},
	} {
		if got := one(glue.Times(x.g, x.n)); got != x.want {
			t.Errorf("Times(%v, %d) = %v; want %v", x.g, x.n, got, x.want)
		}
	}
}

func TestP23Over(t *testing.T) {
	a, great := of(10*pt, 2*pt, 0, pt, 0), of(api.MaxDimen, -api.MaxDimen, 1, api.MaxDimen, 3)
	for _, x := range []struct {
		g    api.Glue
		n    int
		want answer
	}{
		{a, 3, right(218453, 43690, 0, 21845, 0)},
		{a, -3, right(-218453, -43690, 0, -21845, 0)},
		{of(-7, -7, 1, -7, 2), 2, right(-3, -3, 1, -3, 2)},
		{of(-7, 7, 1, -7, 2), -2, right(3, -3, 1, 3, 2)},
		{of(9, 2, 3, 3, 2), 3, right(3, 0, 0, 1, 2)},
		{of(9, 3, 3, -2, 2), 3, right(3, 1, 3, 0, 0)},
		{of(5, 0, 3, 0, 2), 1, right(5, 0, 0, 0, 0)},
		{great, 1, right(api.MaxDimen, -api.MaxDimen, 1, api.MaxDimen, 3)},
		{great, -1, right(-api.MaxDimen, api.MaxDimen, 1, -api.MaxDimen, 3)},
		{great, api.MaxDimen, right(1, -1, 1, 1, 3)},
		{great, api.MaxDimen + 1, right(0, 0, 0, 0, 0)},
		{great, math.MaxInt, right(0, 0, 0, 0, 0)},
		{great, math.MinInt, right(0, 0, 0, 0, 0)},
		{great, 1<<32 + 1, right(0, 0, 0, 0, 0)},
		{great, 0, wrong(api.ErrArith)},
		{a, 0, wrong(api.ErrArith)},
		{api.Glue{}, 0, wrong(api.ErrArith)},
	} {
		if got := one(glue.Over(x.g, x.n)); got != x.want {
			t.Errorf("Over(%v, %d) = %v; want %v", x.g, x.n, got, x.want)
		}
	}
}

// Held against numbers of any length.
func TestP23Exact(t *testing.T) {
	r := &random{1}
	for range 20000 {
		g, n := r.glue(), r.below(1<<r.below(32)*2+1)-1<<16
		want := answer{tidy(of(g.Nat*n, g.Stretch*n, g.StretchOrder, g.Shrink*n, g.ShrinkOrder)), api.OK}
		for _, size := range []int{g.Nat, g.Stretch, g.Shrink} {
			product := new(big.Int).Mul(big.NewInt(int64(size)), big.NewInt(int64(n)))
			if product.CmpAbs(big.NewInt(api.MaxDimen)) > 0 {
				want = wrong(api.ErrArith)
			}
		}
		if got := one(glue.Times(g, n)); got != want {
			t.Fatalf("Times(%v, %d) = %v; want %v", g, n, got, want)
		}
	}
}

func TestP213(t *testing.T) {
	for _, x := range []struct {
		g    api.Glue
		want string
	}{
		{of(10*pt, 2*pt, 0, pt, 0), "10.0 plus 2.0 minus 1.0"},
		{of(0, pt, 1, 0, 0), "0.0 plus 1.0fil"},
		{of(0, pt, 2, 0, 0), "0.0 plus 1.0fill"},
		{of(0, pt, 3, pt, 1), "0.0 plus 1.0filll minus 1.0fil"},
		{of(0, 0, 0, pt, 2), "0.0 minus 1.0fill"},
		{of(-3*pt/2, -pt, 1, -pt/2, 3), "-1.5 plus -1.0fil minus -0.5filll"},
		{api.Glue{}, "0.0"},
		{of(1, 0, 3, 0, 2), "0.00002"},
		{of(0, 1, 0, 0, 3), "0.0 plus 0.00002"},
		{of(api.MaxDimen, api.MaxDimen, 3, -api.MaxDimen, 3), "16383.99998 plus 16383.99998filll minus -16383.99998filll"},
	} {
		if got := glue.Show(x.g); got != x.want {
			t.Errorf("Show(%v) = %q; want %q", x.g, got, x.want)
		}
	}
	for _, g := range wrongGlues() {
		if got := glue.Show(g); got != "" {
			t.Errorf("Show(%v) = %q; want nothing", g, got)
		}
	}
}

func TestP211Commutes(t *testing.T) {
	r := &random{2}
	for range 20000 {
		a, b := r.glue(), r.glue()
		there, back := one(glue.Plus(a, b)), one(glue.Plus(b, a))
		if there != back {
			t.Fatalf("Plus(%v, %v) = %v; the other way %v", a, b, there, back)
		}
	}
}

func TestP211Associates(t *testing.T) {
	r := &random{3}
	tried := 0
	for range 20000 {
		a, b, c := positive(r.glue()), positive(r.glue()), positive(r.glue())
		ab, e1 := glue.Plus(a, b)
		bc, e2 := glue.Plus(b, c)
		left, e3 := glue.Plus(ab, c)
		right, e4 := glue.Plus(a, bc)
		if e1 != 0 || e2 != 0 || e3 != 0 || e4 != 0 {
			continue
		}
		tried++
		if left != right {
			t.Fatalf("%v, %v, %v: %v or %v", a, b, c, left, right)
		}
	}
	if tried < 1000 {
		t.Errorf("only %d sums were tried", tried)
	}
}

func TestP211Twice(t *testing.T) {
	r := &random{4}
	l := edgeGlues()
	for range 20000 {
		l = append(l, r.glue())
	}
	for _, g := range l {
		twice, sum := one(glue.Times(g, 2)), one(glue.Plus(g, g))
		if twice != sum {
			t.Fatalf("Times(%v, 2) = %v; Plus: %v", g, twice, sum)
		}
	}
}

func TestP211Back(t *testing.T) {
	r := &random{5}
	tried := 0
	for range 20000 {
		g, n := r.glue(), r.below(2001)-1000
		many, e := glue.Times(g, n)
		if n == 0 || e != api.OK {
			continue
		}
		tried++
		if got := one(glue.Over(many, n)); got != (answer{tidy(g), api.OK}) {
			t.Fatalf("%v %d times, and the part of it: %v", g, n, got)
		}
	}
	if tried < 1000 {
		t.Errorf("only %d products were tried", tried)
	}
}
