package vlist_test

import (
	"testing"

	"galley/api"
	"galley/scaled"
)

func badness(t *testing.T, by, sum int) int {
	t.Helper()
	b, e := scaled.Badness(by, sum)
	if e != api.OK {
		t.Fatalf("Badness(%d, %d): %d", by, sum, e)
	}
	return b
}

func TestP1106Places(t *testing.T) {
	l := col("bgbkgnpm")
	at := map[int]bool{2: true, 5: true, 8: true, 10: true}
	for to := -3; to < 14; to++ {
		if !at[to] {
			costsNot(t, "no break", l, to, 100, 100, api.ErrNone)
		}
	}
	for _, to := range []int{1 << 32, -1 << 63, 1<<63 - 1, 2 + 1<<32} {
		costsNot(t, "no break", l, to, 100, 100, api.ErrNone)
	}
	costs(t, "a break", l, 2, 7, 2, 0)
	costs(t, "a break", l, 5, 19, 2, 0)
	costs(t, "a break", l, 8, 30, 2, 0)
	costs(t, "a break", l, 10, 30, 2, -10000)
	costs(t, "nothing", nil, 0, 0, 0, -10000)
	costsNot(t, "nothing", nil, -1, 0, 0, api.ErrNone)
	costsNot(t, "nothing", nil, 1, 0, 0, api.ErrNone)
}

// A column with a break behind a box of 100, with glue that stretches and shrinks so, and so dear.
func broken(g api.Glue, q int) ([]api.Node, int) {
	l := join(glued(g), box(100, 0), penalty(q), col("b"))
	return l, 3
}

func TestP1106Badness(t *testing.T) {
	for _, c := range []struct{ height, b int }{
		{100, 0}, {101, 0}, {110, 12}, {120, 100}, {130, badness(t, 30, 20)}, {192, badness(t, 92, 20)}, {193, 10000}, {1000, 10000}, {most, 10000},
		{99, 0}, {95, badness(t, 5, 10)}, {91, badness(t, 9, 10)}, {90, 100}, {89, awful}, {0, awful}, {-most, awful},
	} {
		for _, q := range []int{0, 1, -1, 50, 9999, -9999} {
			l, at := broken(api.Glue{Stretch: 20, Shrink: 10}, q)
			want := c.b + q
			switch c.b {
			case 10000:
				want = 100000
			case awful:
				want = awful
			}
			costs(t, "a break", l, at, c.height, 0, want)
		}
		for _, q := range []int{-10000, -10001, -api.MaxNumber} {
			l, at := broken(api.Glue{Stretch: 20, Shrink: 10}, q)
			want := q
			if c.b == awful {
				want = awful
			}
			costs(t, "a forced break", l, at, c.height, 0, want)
		}
	}
}

// Just as much as the Shrink, and one more.
func TestP1106Shrinks(t *testing.T) {
	for _, shrink := range []int{0, 1, 2, 9, 65536, most} {
		l, at := broken(api.Glue{Shrink: shrink}, 7)
		less := 107
		if shrink == 0 {
			less = 7
		}
		costs(t, "just as much", l, at, 100-shrink, 0, less)
		if shrink < most {
			costs(t, "one more", l, at, 99-shrink, 0, awful)
		}
	}
	l, at := broken(api.Glue{Shrink: -5}, 7)
	costs(t, "what grows as it shrinks", l, at, 99, 0, awful)
	costs(t, "what grows as it shrinks", l, at, 100, 0, 7)
	l = join(skip(0, 0, 7), skip(0, 0, -3), col("bp"))
	costs(t, "what shrinks and what grows", l, 4, 3, 2, 100)
	costs(t, "what shrinks and what grows", l, 4, 2, 2, awful)
}

// What stretches without end is good for all that is too much, but not for what is too little.
func TestP1106Orders(t *testing.T) {
	for order := 1; order <= 3; order++ {
		for _, stretch := range []int{1, -1, most, -most} {
			l, at := broken(api.Glue{Stretch: stretch, StretchOrder: order, Shrink: 10}, 7)
			costs(t, "endless", l, at, 1000, 0, 7)
			costs(t, "endless", l, at, most, 0, 7)
			costs(t, "endless", l, at, 100, 0, 7)
			costs(t, "endless, and shrunk", l, at, 90, 0, 107)
			costs(t, "endless, and too full", l, at, 89, 0, awful)
		}
		l, at := broken(api.Glue{StretchOrder: order, Shrink: 10}, 7)
		costs(t, "nothing without end", l, at, 1000, 0, 100000)
	}
	both := join(glued(api.Glue{Stretch: 5, StretchOrder: 2}), glued(api.Glue{Stretch: -5, StretchOrder: 2}), glued(api.Glue{Stretch: 20}), box(100, 0), penalty(7))
	costs(t, "what comes to 0", both, 5, 120, 0, 107)
	l, at := broken(api.Glue{Stretch: -20}, 7)
	costs(t, "what shrinks as it stretches", l, at, 101, 0, 100000)
	costs(t, "what shrinks as it stretches", l, at, 100, 0, 7)
}

// A badness just below 10000 is one: it and the penalty; from it on it is deplorable.
func TestP1106Deplorable(t *testing.T) {
	last := 0
	for by := range 200 {
		b := badness(t, by, 40)
		l, at := broken(api.Glue{Stretch: 40}, 9999)
		if b < 10000 {
			last = b
			costs(t, "bad", l, at, 100+by, 0, b+9999)
			continue
		}
		costs(t, "deplorable", l, at, 100+by, 0, 100000)
	}
	if last < 8000 {
		t.Errorf("at most %d", last)
	}
	costs(t, "the end", col("b"), 2, 50, 2, -10000)
	costs(t, "the end, too high", col("b"), 2, 6, 2, awful)
}

// Depths that are above the greatest one make it higher.
func TestP1106Depths(t *testing.T) {
	l := join(box(100, 9), penalty(7), col("b"))
	costs(t, "deep enough", l, 2, 100, 9, 7)
	costs(t, "deep enough", l, 2, 100, 10, 7)
	costs(t, "too deep", l, 2, 100, 8, awful)
	costs(t, "too deep", l, 2, 101, 8, 7)
	costs(t, "below", l, 2, 110, -1, 7)
	costs(t, "below", l, 2, 109, -1, awful)
	l = join(box(100, 9), skip(0, 0, 0), penalty(7))
	costs(t, "no last depth", l, 3, 109, 0, 7)
	costs(t, "no last depth", l, 3, 108, 100, awful)
}

// Sums that are greater than a badness's numbers.
func TestP1106Great(t *testing.T) {
	l := join(repeat(skip(most, most, most), 5), penalty(3))
	low := join(repeat(skip(-most, most, most), 5), penalty(3))
	number := api.MaxNumber
	costs(t, "great sums", l, 5, 0, 0, 3+badness(t, number, number))
	costs(t, "great sums", l, 5, -most, 0, awful)
	costs(t, "great sums, high", low, 5, most, 0, 3+badness(t, number, number))
	costs(t, "great sums", low, 5, 0, 0, 3+badness(t, number, number))
	less := join(repeat(skip(-most, most/8, 0), 5), penalty(3))
	costs(t, "less", less, 5, 0, 0, 3+badness(t, number, 5*(most/8)))
	back := join(repeat(skip(-most, -most, 0), 5), penalty(3))
	costs(t, "what shrinks as it stretches", back, 5, 0, 0, 100000)
	more := join(repeat(skip(most/1000, 0, most), 5), penalty(3))
	costs(t, "more than enough", more, 5, 0, 0, 3+badness(t, 5*(most/1000), number))
}

func TestP1106Wrong(t *testing.T) {
	for _, n := range far() {
		for _, l := range [][]api.Node{nil, col("b"), col("bgb")} {
			costsNot(t, "no height", l, len(l), n, 0, api.ErrRange)
			costsNot(t, "no depth", l, len(l), 0, n, api.ErrRange)
			costsNot(t, "neither", l, len(l), n, n, api.ErrRange)
			costsNot(t, "no break, too", l, -1, n, n, api.ErrNone)
			costsNot(t, "no break, too", l, len(l)+1, n, 0, api.ErrNone)
		}
		costsNot(t, "no break, too", col("bgb"), 3, 0, n, api.ErrNone)
	}
}
