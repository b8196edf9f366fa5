package glue_test

import (
	"math"
	"math/big"
	"slices"
	"testing"

	"galley/api"
	"galley/glue"
)

const most = 1 << 46

// setting: what Fit answers, and what Sizes is told.
type setting struct {
	sign, order, num, den int
}

// fitted: a setting, or an error.
type fitted struct {
	setting
	e api.Errno
}

func fit(t api.Totals, excess int) fitted {
	sign, order, num, den, e := glue.Fit(t, excess)
	return fitted{setting{sign, order, num, den}, e}
}

func sizes(l []api.Glue, s setting) ([]int, api.Errno) {
	return glue.Sizes(l, s.sign, s.order, s.num, s.den)
}

// row: pieces that are alike.
func row(g api.Glue, many int) []api.Glue { return slices.Repeat([]api.Glue{g}, many) }

// row: pieces of all kinds.
func (r *random) row(many int) []api.Glue {
	l := make([]api.Glue, many)
	for i := range l {
		l[i] = r.glue()
	}
	return l
}

// far: numbers that no setting has.
func far() []int {
	return []int{most + 1, -most - 1, 1 << 62, -1 << 62, math.MaxInt, math.MinInt}
}

func TestP24(t *testing.T) {
	a, f := of(10*pt, 2*pt, 0, pt, 0), of(0, pt, 1, 0, 0)
	for _, x := range []struct {
		l    []api.Glue
		want api.Totals
	}{
		{nil, api.Totals{}},
		{[]api.Glue{}, api.Totals{}},
		{[]api.Glue{a, f, a}, api.Totals{Nat: 20 * pt, Stretch: [4]int{4 * pt, pt}, Shrink: [4]int{2 * pt}}},
		{[]api.Glue{of(1, 2, 0, 3, 3), of(4, 5, 1, 6, 2), of(7, 8, 2, 9, 1), of(10, 11, 3, 12, 0), of(-1, -1, 3, -2, 0)},
			api.Totals{Nat: 21, Stretch: [4]int{2, 5, 8, 10}, Shrink: [4]int{10, 9, 6, 3}}},
		{[]api.Glue{of(1, 5, 2, 5, 1), of(-1, -5, 2, -5, 1)}, api.Totals{}},
		{row(of(api.MaxDimen, api.MaxDimen, 3, -api.MaxDimen, 2), api.MaxNodes),
			api.Totals{Nat: api.MaxNodes * api.MaxDimen, Stretch: [4]int{3: api.MaxNodes * api.MaxDimen}, Shrink: [4]int{2: -api.MaxNodes * api.MaxDimen}}},
	} {
		if got, e := glue.Sum(x.l); got != x.want || e != api.OK {
			t.Errorf("Sum of %d pieces = %v, %d; want %v", len(x.l), got, e, x.want)
		}
	}
}

// wrongRows: how Sum and Sizes answer them.
func wrongRows() map[api.Errno][][]api.Glue {
	rows := map[api.Errno][][]api.Glue{}
	for _, g := range wrongGlues() {
		many := row(api.Glue{}, api.MaxNodes)
		many[api.MaxNodes-1] = g
		rows[api.ErrGlue] = append(rows[api.ErrGlue], []api.Glue{g}, []api.Glue{{}, g}, []api.Glue{g, {}}, many)
		rows[api.ErrSize] = append(rows[api.ErrSize], row(g, api.MaxNodes+1), append(many, api.Glue{}))
	}
	rows[api.ErrSize] = append(rows[api.ErrSize], row(api.Glue{}, api.MaxNodes+1), row(api.Glue{}, 3*api.MaxNodes))
	return rows
}

func TestP24Wrong(t *testing.T) {
	for want, rows := range wrongRows() {
		for _, l := range rows {
			if got, e := glue.Sum(l); got != (api.Totals{}) || e != want {
				t.Errorf("Sum of %d pieces = %v, %d; want the error %d alone", len(l), got, e, want)
			}
		}
	}
}

func TestP25Range(t *testing.T) {
	want := fitted{e: api.ErrRange}
	for _, n := range far() {
		if got := fit(api.Totals{}, n); got != want {
			t.Errorf("Fit of nothing, %d = %v", n, got)
		}
		for order := range 4 {
			var more, less api.Totals
			more.Stretch[order], less.Shrink[order] = n, n
			for _, excess := range []int{0, 1, -1, n} {
				if got := fit(more, excess); got != want {
					t.Errorf("Fit(%v, %d) = %v; want ErrRange alone", more, excess, got)
				}
				if got := fit(less, excess); got != want {
					t.Errorf("Fit(%v, %d) = %v; want ErrRange alone", less, excess, got)
				}
			}
		}
	}
}

func TestP25(t *testing.T) {
	still := setting{}
	sums := api.Totals{Nat: 20 * pt, Stretch: [4]int{4 * pt, pt}, Shrink: [4]int{2 * pt}}
	all := api.Totals{Stretch: [4]int{1, 2, 3, 4}, Shrink: [4]int{5, 6, 7, 8}}
	none := api.Totals{Stretch: [4]int{-1, 0, -3, -4}, Shrink: [4]int{-5, -6, 0, -8}}
	bounds := api.Totals{Stretch: [4]int{most, -most, most, -most}, Shrink: [4]int{-most, most, -most, -most}}
	for _, x := range []struct {
		t      api.Totals
		excess int
		want   setting
	}{
		{sums, 65536, setting{api.Stretching, 1, 65536, 65536}},
		{sums, 0, still},
		{sums, -3 * pt, setting{api.Shrinking, 0, 2 * pt, 2 * pt}},
		{sums, -2 * pt, setting{api.Shrinking, 0, 2 * pt, 2 * pt}},
		{sums, -2*pt - 1, setting{api.Shrinking, 0, 2 * pt, 2 * pt}},
		{sums, -2*pt + 1, setting{api.Shrinking, 0, 2*pt - 1, 2 * pt}},
		{sums, -1, setting{api.Shrinking, 0, 1, 2 * pt}},
		{api.Totals{}, 5, still}, {api.Totals{}, -5, still}, {api.Totals{Nat: 7}, 0, still},
		{all, 100, setting{api.Stretching, 3, 100, 4}}, {all, -100, setting{api.Shrinking, 3, 100, 8}}, {all, 0, still},
		{none, 5, still}, {none, -5, still}, {none, 0, still},
		// a sum that is not above 0 lets a lesser order have its turn
		{api.Totals{Stretch: [4]int{1, 2, 0, -4}}, 9, setting{api.Stretching, 1, 9, 2}},
		{api.Totals{Stretch: [4]int{3, 0, 0, 0}}, 9, setting{api.Stretching, 0, 9, 3}},
		{api.Totals{Shrink: [4]int{1, -2, 3, 0}}, -9, setting{api.Shrinking, 2, 9, 3}},
		{api.Totals{Shrink: [4]int{3, -2, 0, 0}}, -9, setting{api.Shrinking, 0, 3, 3}},
		// just order 0 is kept from shrinking more
		{api.Totals{Shrink: [4]int{9, 3, 0, 0}}, -9, setting{api.Shrinking, 1, 9, 3}},
		{api.Totals{Stretch: [4]int{3}, Shrink: [4]int{2}}, 9, setting{api.Stretching, 0, 9, 3}},
		// what is of the other side counts for nothing
		{api.Totals{Stretch: [4]int{1, 1, 1, 1}}, -9, still}, {api.Totals{Shrink: [4]int{1, 1, 1, 1}}, 9, still},
		// Nat counts for nothing
		{api.Totals{Nat: math.MinInt, Stretch: [4]int{3}}, 9, setting{api.Stretching, 0, 9, 3}},
		{api.Totals{Nat: math.MaxInt, Shrink: [4]int{3}}, -2, setting{api.Shrinking, 0, 2, 3}},
		{bounds, most, setting{api.Stretching, 2, most, most}}, {bounds, -most, setting{api.Shrinking, 1, most, most}}, {bounds, 0, still},
		{api.Totals{Shrink: [4]int{most}}, -most, setting{api.Shrinking, 0, most, most}},
	} {
		if got := fit(x.t, x.excess); got != (fitted{x.want, api.OK}) {
			t.Errorf("Fit(%v, %d) = %v; want %v", x.t, x.excess, got, x.want)
		}
	}
}

func TestP26(t *testing.T) {
	for _, x := range []struct {
		sum, num, den, want int
		e                   api.Errno
	}{
		{0, 0, 1, 0, 0}, {7, 0, 3, 0, 0}, {0, -7, 3, 0, 0}, {6, 5, 3, 10, 0},
		// of two that are equally near the one farther from 0
		{-1, 1, 2, -1, 0}, {1, 1, 2, 1, 0}, {1, -1, 2, -1, 0}, {-1, -1, 2, 1, 0}, {3, 1, 2, 2, 0}, {-3, 1, 2, -2, 0}, {7, 3, 2, 11, 0}, {5, 1, 10, 1, 0}, {-5, 1, 10, -1, 0},
		{1, 5, 3, 2, 0}, {2, 5, 3, 3, 0}, {3, 5, 3, 5, 0}, {1, 1, 3, 0, 0}, {2, 1, 3, 1, 0}, {-1, 1, 3, 0, 0}, {-2, 1, 3, -1, 0}, {4, 1, 9, 0, 0}, {5, 1, 9, 1, 0},
		// den
		{1, 1, 0, 0, api.ErrRange}, {1, 1, -1, 0, api.ErrRange}, {0, 0, 0, 0, api.ErrRange}, {0, 0, -most, 0, api.ErrRange},
		// bounds
		{most, most, most, most, 0}, {-most, most, most, -most, 0}, {most, -most, most, -most, 0}, {-most, -most, most, most, 0},
		{most, 1, 1, most, 0}, {-most, 1, 1, -most, 0}, {most, 1, most, 1, 0}, {most / 2, 1, most, 1, 0}, {most/2 - 1, 1, most, 0, 0}, {1, 1, most, 0, 0},
		{most, most, 1, 0, api.ErrArith}, {-most, most, 1, 0, api.ErrArith}, {most, most, most - 1, 0, api.ErrArith}, {most, most, 1 << 27, 0, api.ErrArith}, {most, most, 1 << 28, 0, api.ErrArith}, {most, most, 1 << 29, 0, api.ErrArith},
		// 2^46 + 1/4, - 1/2, + 1/2, + 1
		{65537, 4294901761, 4, most, 0}, {-65537, 4294901761, 4, -most, 0},
		{2351, 4513 * 13264529, 2, most, 0}, {2351, -4513 * 13264529, 2, -most, 0},
		{3, 46912496118443, 2, 0, api.ErrArith}, {-3, 46912496118443, 2, 0, api.ErrArith},
		{most / 2, 2, 1, most, 0}, {most/2 + 1, 2, 1, 0, api.ErrArith},
		// a quotient of 64 bits, all of them 1, which would round to 0
		{1<<33 - 1, 1<<33 + 1, 4, 0, api.ErrArith}, {1<<32 - 1, 1<<32 + 1, 1, 0, api.ErrArith}, {1 << 32, 1 << 32, 1, 0, api.ErrArith},
	} {
		if got, e := glue.Share(x.sum, x.num, x.den); got != x.want || e != x.e {
			t.Errorf("Share(%d, %d, %d) = %d, %d; want %d, %d", x.sum, x.num, x.den, got, e, x.want, x.e)
		}
	}
	for _, n := range far() {
		for _, x := range [][3]int{{n, 1, 1}, {1, n, 1}, {1, 1, n}, {0, 0, n}, {n, n, n}, {n, 0, 1}, {0, n, 1}} {
			if got, e := glue.Share(x[0], x[1], x[2]); got != 0 || e != api.ErrRange {
				t.Errorf("Share of %v = %d, %d; want ErrRange alone", x, got, e)
			}
		}
	}
}

// share: as Share is to answer, by numbers of any length: half of den is added away from 0, then the quotient loses what is left over.
func share(sum, num, den int) (int, api.Errno) {
	two := big.NewInt(2)
	product := new(big.Int).Mul(big.NewInt(int64(sum)), big.NewInt(int64(num)))
	half := big.NewInt(int64(den * product.Sign()))
	q := new(big.Int).Quo(half.Add(half, product.Mul(product, two)), two.Mul(two, big.NewInt(int64(den))))
	if q.CmpAbs(big.NewInt(most)) > 0 {
		return 0, api.ErrArith
	}
	return int(q.Int64()), api.OK
}

// wide: from -2^46 to 2^46, of all sizes.
func (r *random) wide() int { return (r.below(2*most+1) - most) >> r.below(47) }

func TestP26Exact(t *testing.T) {
	r := &random{6}
	for range 100000 {
		sum, num, den := r.wide(), r.wide(), r.wide()
		den = max(den, 1-den)
		want, wantErr := share(sum, num, den)
		if got, e := glue.Share(sum, num, den); got != want || e != wantErr {
			t.Fatalf("Share(%d, %d, %d) = %d, %d; want %d, %d", sum, num, den, got, e, want, wantErr)
		}
	}
}

func TestP212(t *testing.T) {
	r := &random{7}
	for range 50000 {
		sum, num, den := r.wide(), r.wide(), r.wide()
		den = max(den, 1-den)
		there, e1 := glue.Share(sum, num, den)
		back, e2 := glue.Share(-sum, num, den)
		if there != -back || e1 != e2 {
			t.Fatalf("Share of %d, -%d, of %d, %d: %d, %d", sum, sum, num, den, there, back)
		}
		if got, e := glue.Share(den, num, den); got != num || e != api.OK {
			t.Fatalf("Share(%d, %d, %d) = %d, %d", den, num, den, got, e)
		}
		num = max(num, -num)
		low, e1 := glue.Share(sum, num, den)
		high, e2 := glue.Share(min(most, sum+r.below(1+den)), num, den)
		if e1 == api.OK && e2 == api.OK && high < low {
			t.Fatalf("Share of %d or more, of %d, %d: %d, %d", sum, num, den, low, high)
		}
	}
}
