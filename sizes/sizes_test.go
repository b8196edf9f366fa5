package sizes_test

import (
	"math"
	"testing"

	"galley/api"
	"galley/scaled"
	"galley/sizes"
)

const most = api.MaxDimen

func TestDimensions(t *testing.T) {
	for _, n := range []int{0, 1, -1, most, -most} {
		if !sizes.Dimensions(n) || !sizes.Dimensions(0, n) || !sizes.Dimensions(n, 0, n) {
			t.Error(n)
		}
	}
	for _, n := range []int{most + 1, -most - 1, 1 << 32, math.MaxInt, math.MinInt} {
		if sizes.Dimensions(n) || sizes.Dimensions(0, n) || sizes.Dimensions(n, 0) || sizes.Dimensions(0, n, 0) {
			t.Error(n)
		}
	}
	if !sizes.Dimensions() {
		t.Error("none")
	}
}

func TestFinite(t *testing.T) {
	for _, order := range []int{0, 1, 2, 3} {
		for _, shrink := range []int{-1, 0, 1} {
			g := api.Glue{Stretch: 1, StretchOrder: 3, Shrink: shrink, ShrinkOrder: order}
			if sizes.Finite(g) != (shrink == 0 || order == 0) {
				t.Error(g)
			}
		}
	}
}

func TestBadness(t *testing.T) {
	badness := func(by, sum int) int {
		b, e := scaled.Badness(by, sum)
		if e != api.OK {
			t.Fatal(by, sum, e)
		}
		return b
	}
	t4 := func(nat int, stretch, shrink [4]int) api.Totals {
		return api.Totals{Nat: nat, Stretch: stretch, Shrink: shrink}
	}
	number := api.MaxNumber
	for _, c := range []struct {
		t       api.Totals
		size    int
		badness int
		full    bool
	}{
		{t4(0, [4]int{}, [4]int{}), 0, 0, false},
		{t4(7, [4]int{}, [4]int{}), 7, 0, false},
		{t4(7, [4]int{-5}, [4]int{-5}), 7, 0, false},
		{t4(7, [4]int{}, [4]int{}), 8, 10000, false},
		{t4(7, [4]int{-3}, [4]int{}), 8, 10000, false},
		{t4(7, [4]int{1}, [4]int{}), 8, 100, false},
		{t4(7, [4]int{20}, [4]int{}), 17, badness(10, 20), false},
		{t4(-7, [4]int{20}, [4]int{}), 3, badness(10, 20), false},
		{t4(7, [4]int{20, 1}, [4]int{}), 17, 0, false},
		{t4(7, [4]int{20, 0, -1}, [4]int{}), 17, 0, false},
		{t4(7, [4]int{0, 0, 0, 1}, [4]int{}), most, 0, false},
		{t4(7, [4]int{}, [4]int{0, 1, 1, 1}), 17, 10000, false},
		{t4(8, [4]int{}, [4]int{}), 7, 0, true},
		{t4(8, [4]int{5, 5, 5, 5}, [4]int{0, 5, 5, 5}), 7, 0, true},
		{t4(8, [4]int{}, [4]int{-5}), 7, 0, true},
		{t4(8, [4]int{}, [4]int{1}), 7, 100, false},
		{t4(8, [4]int{0, 1}, [4]int{1}), 7, 100, false},
		{t4(9, [4]int{}, [4]int{1}), 7, 0, true},
		{t4(17, [4]int{}, [4]int{20}), 7, badness(10, 20), false},
		{t4(0, [4]int{1 << 40}, [4]int{}), number, badness(number, number), false},
		{t4(-1<<40, [4]int{1 << 40}, [4]int{}), 0, badness(number, number), false},
		{t4(-1<<40, [4]int{5 << 30}, [4]int{}), 0, badness(number, number), false},
		{t4(-1<<40, [4]int{most}, [4]int{}), 0, badness(number, most), false},
		{t4(-1<<40, [4]int{-1 << 40}, [4]int{}), 0, 10000, false},
		{t4(1<<40, [4]int{}, [4]int{1 << 41}), 0, badness(number, number), false},
		{t4(1<<40, [4]int{}, [4]int{1<<40 - 1}), 0, 0, true},
		{t4(1<<20, [4]int{}, [4]int{1 << 40}), 0, badness(1<<20, number), false},
	} {
		if b, full := sizes.Badness(c.t, c.size); b != c.badness || full != c.full {
			t.Errorf("%v to %d: %d, %v; want %d, %v", c.t, c.size, b, full, c.badness, c.full)
		}
	}
}
