package glue

import (
	"math/bits"

	"galley/api"
)

// most: far more than any row's sums come to, and few enough bits for sums of shares to stay exact.
const most = 1 << 46

// fit: may all of these be numbers of a setting?
func fit(numbers ...int) bool {
	for _, n := range numbers {
		if n < -most || n > most {
			return false
		}
	}
	return true
}

// checkRow: may all of these stand in one row?
func checkRow(l []api.Glue) api.Errno {
	if len(l) > api.MaxNodes {
		return api.ErrSize
	}
	for _, g := range l {
		if e := Check(g); e != api.OK {
			return e
		}
	}
	return api.OK
}

// Sum: of a row, by orders.
func Sum(l []api.Glue) (api.Totals, api.Errno) {
	if e := checkRow(l); e != api.OK {
		return api.Totals{}, e
	}
	nat := 0
	var more, less [orders]int
	for _, g := range l {
		nat += g.Nat
		more[g.StretchOrder] += g.Stretch
		less[g.ShrinkOrder] += g.Shrink
	}
	return api.Totals{Nat: nat, Stretch: more, Shrink: less}, api.OK
}

// Fit: how a row is set, to be so much wider.
func Fit(t api.Totals, excess int) (sign, order, num, den int, e api.Errno) {
	if !fit(excess) || !fit(t.Stretch[:]...) || !fit(t.Shrink[:]...) {
		return 0, 0, 0, 0, api.ErrRange
	}
	sign, sums := api.Stretching, t.Stretch
	if excess < 0 {
		sign, sums = api.Shrinking, t.Shrink
	}
	order, found := greatest(sums)
	if excess == 0 || !found {
		return api.Still, 0, 0, 0, api.OK
	}
	num, den = max(excess, -excess), sums[order]
	if sign == api.Shrinking && order == 0 {
		// A size that shrinks by more than all that there is would lie over its neighbours.
		num = min(num, den)
	}
	return sign, order, num, den, api.OK
}

// greatest: the greatest order of which there is something.
func greatest(sums [orders]int) (order int, found bool) {
	for i := range orders {
		if sums[i] > 0 {
			order, found = i, true
		}
	}
	return order, found
}

// Share: num sum / den, rounded.
func Share(sum, num, den int) (int, api.Errno) {
	if !fit(sum, num, den) || den < 1 {
		return 0, api.ErrRange
	}
	size, e := rounded(max(sum, -sum), max(num, -num), den)
	if (sum < 0) != (num < 0) {
		size = -size
	}
	return size, e
}

// rounded works with 128 bits, as sum num may have 93 of them.
func rounded(sum, num, den int) (int, api.Errno) {
	high, low := bits.Mul64(uint64(sum), uint64(num))
	if high >= uint64(den) {
		return 0, api.ErrArith
	}
	q, rest := bits.Div64(high, low, uint64(den))
	// Held against the bound ahead of rounding, too: the greatest q would wrap round.
	if q <= most && 2*rest >= uint64(den) {
		q++
	}
	if q > most {
		return 0, api.ErrArith
	}
	return int(q), api.OK
}

// Sizes: of a row's pieces, when it is set so.
func Sizes(l []api.Glue, sign, order, num, den int) ([]int, api.Errno) {
	if e := checkRow(l); e != api.OK {
		return nil, e
	}
	if sign < api.Still || sign > api.Shrinking || order < 0 || order >= orders {
		return nil, api.ErrArg
	}
	if !fit(num, den) || sign != api.Still && den < 1 {
		return nil, api.ErrRange
	}
	change := changes(sign, order, num, den)
	sizes := make([]int, len(l))
	for i := range len(l) {
		by, e := change(l[i])
		if e != api.OK {
			return nil, e
		}
		sizes[i] = l[i].Nat + by
	}
	return sizes, api.OK
}

// changes: asked for a row's pieces, one after the other, it says how much wider each becomes.
// Not each piece is rounded, but the sum so far, so that what one loses the next ones win again.
func changes(sign, order, num, den int) func(api.Glue) (int, api.Errno) {
	sum, shared := 0, 0
	further := func(f flex) (int, api.Errno) {
		if f.order != order {
			return 0, api.OK
		}
		now, e := Share(sum+f.size, num, den)
		if e != api.OK {
			return 0, e
		}
		by := now - shared
		sum, shared = sum+f.size, now
		return by, api.OK
	}
	return func(g api.Glue) (int, api.Errno) {
		switch sign {
		case api.Stretching:
			return further(stretch(g))
		case api.Shrinking:
			by, e := further(shrink(g))
			return -by, e
		}
		return 0, api.OK
	}
}
