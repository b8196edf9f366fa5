package pack_test

import (
	"math"
	"testing"

	"galley/api"
	"galley/pack"
)

func TestP65(t *testing.T) {
	for _, x := range []struct {
		down                         bool
		sign, bad, over, limit, fuzz int
		want                         string
	}{
		{false, api.Shrinking, 1000000, 65536, 1000, 6553, "Overfull hbox (1.0pt too wide)"},
		{true, api.Shrinking, 1000000, 163840, 1000, 6553, "Overfull vbox (2.5pt too high)"},
		{false, api.Still, 1000000, 1, 1000, 0, "Overfull hbox (0.00002pt too wide)"},
		{true, api.Still, 1000000, math.MaxInt32, 1000, 0, "Overfull vbox (32767.99998pt too high)"},
		// At fuzz, and just above.
		{false, api.Shrinking, 1000000, 6553, 1000, 6553, ""},
		{false, api.Shrinking, 1000000, 6554, 1000, 6553, "Overfull hbox (0.1pt too wide)"},
		{false, api.Still, 1000000, 6553, 1000, 6553, ""},
		{false, api.Still, 1000000, 6554, 1000, 6553, "Overfull hbox (0.1pt too wide)"},
		{false, api.Shrinking, 0, 0, 1000, -5, ""},
		{false, api.Shrinking, 0, 1, 1000, -5, "Overfull hbox (0.00002pt too wide)"},
		{false, api.Shrinking, 0, -4, 1000, -5, ""},
		// Whatever fuzz is, if limit is below 100.
		{false, api.Shrinking, 1000000, 1, 100, 6553, ""},
		{false, api.Shrinking, 1000000, 1, 99, 6553, "Overfull hbox (0.00002pt too wide)"},
		{false, api.Still, 1000000, 1, -7, math.MaxInt, "Overfull hbox (0.00002pt too wide)"},
		{true, api.Still, 1000000, 65536, 99, math.MaxInt, "Overfull vbox (1.0pt too high)"},
		{true, api.Still, 1000000, 65536, 100, math.MaxInt, ""},
		// At limit, and just above.
		{false, api.Still, 10000, 0, 9999, 0, "Underfull hbox (badness 10000)"},
		{false, api.Still, 10000, 0, 10000, 0, ""},
		{true, api.Stretching, 101, 0, 100, 0, "Underfull vbox (badness 101)"},
		{true, api.Stretching, 101, 0, 101, 0, ""},
		{true, api.Stretching, 100, 0, 99, 0, "Loose vbox (badness 100)"},
		{false, api.Stretching, 100, 0, 100, 0, ""},
		{false, api.Stretching, 101, 0, 99, 0, "Underfull hbox (badness 101)"},
		{false, api.Still, 100, 0, 99, 0, "Loose hbox (badness 100)"},
		{false, api.Stretching, 1, -1, 0, 0, "Loose hbox (badness 1)"},
		{false, api.Still, 0, 0, -1, 0, "Loose hbox (badness 0)"},
		{false, api.Stretching, 0, 0, 0, 0, ""},
		{false, api.Shrinking, 55, 0, 54, 0, "Tight hbox (badness 55)"},
		{true, api.Shrinking, 55, -1, 54, 0, "Tight vbox (badness 55)"},
		{false, api.Shrinking, 55, 0, 55, 0, ""},
		{false, api.Shrinking, 10000, 0, 100, 0, "Tight hbox (badness 10000)"},
		// A box that stretches is not too full; one that is so isn't told of as any other.
		{false, api.Stretching, 1000000, 1, 1000, 0, ""},
		{false, api.Stretching, 1000000, 1, 1000, 5, ""},
		{false, api.Still, 1000000, 5, 1000, 5, ""},
		{false, api.Shrinking, 1000000, 5, 1000, 5, ""},
		// Signs that are none.
		{false, 3, 1000000, 65536, 1000, 0, ""},
		{false, -1, 10000, 0, 0, 0, ""},
		{true, math.MinInt, 50, 0, 0, 0, ""},
	} {
		if got := pack.Report(x.down, x.sign, x.bad, x.over, x.limit, x.fuzz); got != x.want {
			t.Errorf("Report %v = %q", x, got)
		}
	}
}

// All that may meet, around each bound.
func TestP65Grid(t *testing.T) {
	texts := map[string]int{}
	for _, down := range []bool{false, true} {
		for sign := api.Still; sign <= api.Shrinking; sign++ {
			for _, bad := range []int{-1, 0, 1, 99, 100, 101, 9999, 10000, 10001, pack.Over} {
				for _, over := range []int{math.MinInt, -1, 0, 1, 2, pt, math.MaxInt32, math.MaxInt} {
					for _, limit := range []int{math.MinInt, -2, 0, 98, 99, 100, 101, 9999, 10000, pack.Over, math.MaxInt} {
						for _, fuzz := range []int{math.MinInt, -1, 0, 1, 2, pt - 1, pt, math.MaxInt} {
							if sign == api.Stretching && over > 0 {
								continue // no box is so
							}
							want := reportPlainly(down, sign, bad, over, limit, fuzz)
							if got := pack.Report(down, sign, bad, over, limit, fuzz); got != want {
								t.Errorf("Report(%v, %d, %d, %d, %d, %d) = %q; want %q", down, sign, bad, over, limit, fuzz, got, want)
							}
							texts[want]++
						}
					}
				}
			}
		}
	}
	if len(texts) < 20 {
		t.Errorf("too few texts: %v", texts)
	}
}

// What the calls answer, told.
func TestP65Boxes(t *testing.T) {
	l := join(kern(1000), skip(0, 100, 0, 100, 0))
	for to, want := range map[int]string{
		1000: "", 1050: "", 1098: "Loose hbox (badness 94)", 1200: "Underfull hbox (badness 800)",
		950: "", 902: "Tight hbox (badness 94)", 900: "Tight hbox (badness 100)", 899: "Overfull hbox (0.00002pt too wide)",
	} {
		got := hpack(l, to, true, 0)
		if s := pack.Report(false, got.node().Sign, got.bad, got.over, 50, 10); s != want {
			t.Errorf("to %d: %q; want %q", to, s, want)
		}
	}
}
