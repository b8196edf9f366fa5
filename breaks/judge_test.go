package breaks_test

import (
	"math"
	"testing"

	"galley/api"
	"galley/breaks"
)

const bound = 1 << 46

func judgeIs(t *testing.T, line api.Totals, width, badness, class int) {
	t.Helper()
	if b, c, e := breaks.Judge(line, width); b != badness || c != class || e != api.OK {
		t.Errorf("Judge of %v, %d: %d, %d, %d; want %d, %d", line, width, b, c, e, badness, class)
	}
}

func TestP905Range(t *testing.T) {
	for _, n := range []int{bound + 1, -bound - 1, math.MaxInt, math.MinInt} {
		for _, line := range []api.Totals{totals(n, 0, 0), totals(0, n, 0), totals(0, 0, n), {Nat: n, Stretch: [4]int{n, 1}, Shrink: [4]int{n}}} {
			for _, width := range []int{0, line.Nat, n} {
				if b, c, e := breaks.Judge(line, width); b != 0 || c != 0 || e != api.ErrRange {
					t.Errorf("Judge of %v, %d: %d, %d, %d", line, width, b, c, e)
				}
			}
		}
		if b, c, e := breaks.Judge(api.Totals{}, n); b != 0 || c != 0 || e != api.ErrRange {
			t.Errorf("Judge for %d: %d, %d, %d", n, b, c, e)
		}
		// Other orders may be of any size.
		judgeIs(t, api.Totals{Stretch: [4]int{0, n, n, n}, Shrink: [4]int{0, n, n, n}}, 5, 0, 2)
		judgeIs(t, api.Totals{Stretch: [4]int{0, n, n, n}, Shrink: [4]int{0, n, n, n}}, -5, 10001, 3)
	}
	judgeIs(t, totals(-bound, 0, 0), bound, 10000, 0)
	judgeIs(t, totals(-bound, bound, 0), bound, 100, 0)
	judgeIs(t, totals(-bound, -bound, -bound), bound, 10000, 0)
	judgeIs(t, totals(bound, bound, bound), -bound, 10001, 3)
	judgeIs(t, totals(bound, 0, bound), 0, 100, 3)
	judgeIs(t, totals(bound, 0, bound-1), 0, 10001, 3)
	judgeIs(t, totals(bound, -bound, -bound), bound, 0, 2)
	judgeIs(t, totals(-bound, 0, 0), -bound, 0, 2)
}

func TestP905Even(t *testing.T) {
	for _, n := range []int{0, 1, -1, 5 * pt} {
		for _, line := range []api.Totals{totals(n, 0, 0), totals(n, 5, 5), totals(n, -5, -5), {Nat: n, Stretch: [4]int{1, 1, 1, 1}}} {
			judgeIs(t, line, n, 0, 2)
		}
	}
}

// 297 of glue, so that badness goes by the number of what is asked for.
func TestP905Stretch(t *testing.T) {
	line := totals(1000, 297, 99)
	for _, x := range [][3]int{
		{1, 0, 2}, {50, 0, 2}, {51, 1, 2}, {148, 12, 2}, {149, 13, 1}, {296, 99, 1}, {297, 100, 0}, {298, 101, 0}, {1290, 8189, 0}, {1291, 10000, 0}, {most, 10000, 0},
	} {
		judgeIs(t, line, 1000+x[0], x[1], x[2])
	}
	// Nothing to stretch, or less.
	for _, stretch := range []int{0, -1, -297, -bound} {
		judgeIs(t, totals(0, stretch, 99), 1, 10000, 0)
		judgeIs(t, totals(0, stretch, 99), most, 10000, 0)
	}
	// Numbers above MaxNumber count as it.
	judgeIs(t, totals(0, number, 0), number, 100, 0)
	judgeIs(t, totals(0, 100*number, 0), 50*number, 100, 0)
	judgeIs(t, totals(0, number/2, 0), 50*number, 800, 0)
	judgeIs(t, totals(0, number/2, 0), number, 800, 0)
	judgeIs(t, totals(0, 100*number, 0), number/2, 12, 2)
	judgeIs(t, totals(0, bound, 0), 1, 0, 2)
}

func TestP905Endless(t *testing.T) {
	for order := 1; order <= 3; order++ {
		for _, n := range []int{1, -1, most, math.MinInt, math.MaxInt} {
			line := totals(1000, 297, 297)
			line.Stretch[order] = n
			for _, by := range []int{1, 149, 297, 99999} {
				judgeIs(t, line, 1000+by, 0, 2)
			}
			// It does not help a line that is too long.
			judgeIs(t, line, 1000-297, 100, 3)
			judgeIs(t, line, 1000-298, 10001, 3)
			line.Stretch[0] = -9
			judgeIs(t, line, 1001, 0, 2)
		}
		// Nor does shrinking of another order, either way.
		line := totals(1000, 297, 297)
		line.Shrink[order] = 5
		judgeIs(t, line, 1000-298, 10001, 3)
		judgeIs(t, line, 1000+297, 100, 0)
	}
}

func TestP905Shrink(t *testing.T) {
	line := totals(1000, 9999, 297)
	for _, x := range [][3]int{
		{1, 0, 2}, {50, 0, 2}, {51, 1, 2}, {148, 12, 2}, {149, 13, 3}, {296, 99, 3}, {297, 100, 3}, {298, 10001, 3}, {9999, 10001, 3}, {most, 10001, 3},
	} {
		judgeIs(t, line, 1000-x[0], x[1], x[2])
	}
	for _, shrink := range []int{0, -1, -297, -bound} {
		judgeIs(t, totals(0, 9999, shrink), -1, 10001, 3)
		judgeIs(t, totals(0, 9999, shrink), -most, 10001, 3)
	}
	judgeIs(t, totals(0, 0, 1), -1, 100, 3)
	judgeIs(t, totals(0, 0, 1), -2, 10001, 3)
	// Numbers above MaxNumber count as it.
	judgeIs(t, totals(number, 0, number), 0, 100, 3)
	judgeIs(t, totals(50*number, 0, 100*number), 0, 100, 3)
	judgeIs(t, totals(number/2, 0, 100*number), 0, 12, 2)
	judgeIs(t, totals(101*number, 0, 100*number), 0, 10001, 3)
}

func TestP905Random(t *testing.T) {
	r := &random{905}
	size := func() int {
		n := r.of(r.from(-3, 9), r.from(-400, 400), r.below(most), bound-1+r.below(3), number-1+r.below(3))
		return n * r.of(1, 1, 1, 1, -1)
	}
	for range 100000 {
		line := totals(size(), size(), size())
		if r.chance(9) {
			line.Stretch[r.from(1, 3)] = size()
		}
		width := line.Nat + r.from(-400, 400)
		if r.chance(2) {
			width = size()
		}
		b, c, e := breaks.Judge(line, width)
		if b2, c2, e2 := plainJudge(line, width); b != b2 || c != c2 || e != e2 {
			t.Fatalf("Judge of %v, %d: %d, %d, %d; want %d, %d, %d", line, width, b, c, e, b2, c2, e2)
		}
	}
}
