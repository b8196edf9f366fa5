package font_test

import (
	"math"
	"slices"
	"testing"

	"galley/api"
	"galley/font"
)

// sizes: what At answered.
type sizes struct {
	w, h, d, italic int
	e               api.Errno
}

func sizesOf(f api.Font, c byte, at int) sizes {
	w, h, d, italic, e := font.At(f, c, at)
	return sizes{w, h, d, italic, e}
}

// someSizes: at the bounds, and where z is halved once more.
func someSizes() []int {
	l := []int{1, 2, 3, 15, 16, 255, 256, 65535, 65536, 327680, 655360, 655361, 1234567}
	for i := 22; i < 27; i++ {
		l = append(l, 1<<i-1, 1<<i, 1<<i+1)
	}
	return append(l, 1<<27-2, 1<<27-1)
}

// someFixes rise.
func someFixes() []int {
	l := []int{leastFix, -1, 0, 1, mostFix}
	for i := range 24 {
		l = append(l, 1<<i-1, 1<<i, 1<<i+1, -1<<i-1, -1<<i, -1<<i+1)
	}
	r := random{3}
	for range 300 {
		l = append(l, r.fix())
	}
	slices.Sort(l)
	return slices.Compact(l)
}

func TestP305Metric(t *testing.T) {
	for _, x := range []struct {
		name string
		f    api.Font
	}{{"example", example()}, {"rich", rich()}, {"bare", bare()}, {"one at 0", many(1)}, {"all", many(256)}} {
		for c := range 256 {
			want, there := api.Metric{}, false
			if at := c - x.f.First; at >= 0 && at < len(x.f.Chars) && x.f.Chars[at] != gone {
				want, there = x.f.Chars[at], true
			}
			if got, found := font.Metric(x.f, byte(c)); got != want || found != there {
				t.Errorf("%s: Metric %d = %v, %v; want %v, %v", x.name, c, got, found, want, there)
			}
		}
	}
}

// Of what is no font, too, by the places alone.
func TestP305MetricWrong(t *testing.T) {
	m := []api.Metric{{W: math.MaxInt, Tag: 0}, {W: 5, Tag: -1}, {Tag: 1, Rest: -1}, {Tag: 2, Rest: 999}, {H: math.MinInt, Tag: 3}, {Tag: 4}, {Tag: -2}, {Tag: math.MaxInt}, {Tag: math.MinInt}}
	there := []bool{true, false, true, true, true, false, false, false, false}
	for _, first := range []int{0, 1, 247, 250, 255, 256, -1, -4, -9, -1 << 40, math.MinInt, math.MinInt + 255, math.MaxInt} {
		f := api.Font{First: first, Chars: m}
		for c := range 256 {
			want, found := api.Metric{}, false
			for i := range m {
				if there[i] && first > -1000 && first < 1000 && first+i == c {
					want, found = m[i], true
				}
			}
			if got, ok := font.Metric(f, byte(c)); got != want || ok != found {
				t.Errorf("First %d: Metric %d = %v, %v; want %v, %v", first, c, got, ok, want, found)
			}
		}
	}
}

func TestP305Size(t *testing.T) {
	for _, x := range []struct {
		at, x int
		e     api.Errno
	}{
		{0, 0, api.ErrRange}, {-1, 0, api.ErrRange}, {1 << 27, 0, api.ErrRange}, {math.MinInt, 5, api.ErrRange}, {math.MaxInt, 5, api.ErrRange}, {1 << 32, 5, api.ErrRange}, {1<<32 + 5, 5, api.ErrRange},
		{5, leastFix - 1, api.ErrRange}, {5, mostFix + 1, api.ErrRange}, {5, math.MinInt, api.ErrRange}, {5, math.MaxInt, api.ErrRange}, {5, 1 << 32, api.ErrRange}, {5, -1 << 32, api.ErrRange}, {0, mostFix + 1, api.ErrRange},
		{1, leastFix, api.OK}, {1, mostFix, api.OK}, {1<<27 - 1, leastFix, api.OK}, {1<<27 - 1, mostFix, api.OK},
	} {
		got, e := font.Size(x.at, x.x)
		if e != x.e || e != api.OK && got != 0 {
			t.Errorf("Size(%d, %d) = %d, %d; want %d", x.at, x.x, got, e, x.e)
		}
	}
}

func TestP305At(t *testing.T) {
	f := rich()
	for _, x := range []struct {
		name string
		f    api.Font
		c    byte
		at   int
		want sizes
	}{
		{"example", example(), 'a', 655360, sizes{327680, 163840, 0, 0, api.OK}},
		{"example, twice as great", example(), 'a', 2 * 655360, sizes{655360, 327680, 0, 0, api.OK}},
		{"not there", example(), 'b', 655360, sizes{e: api.ErrChar}},
		{"ahead of all", example(), '`', 655360, sizes{e: api.ErrChar}},
		{"the ends", example(), 0, 655360, sizes{e: api.ErrChar}},
		{"the other end", example(), 255, 655360, sizes{e: api.ErrChar}},
		{"amid", f, 11, 655360, sizes{e: api.ErrChar}},
		{"behind all", f, 21, 655360, sizes{e: api.ErrChar}},
		{"none at all", bare(), 0, 655360, sizes{e: api.ErrChar}},
		{"no size", example(), 'a', 0, sizes{e: api.ErrRange}},
		{"no size, not there", example(), 'b', 0, sizes{e: api.ErrRange}},
		{"below 0", example(), 'a', -1, sizes{e: api.ErrRange}},
		{"too great", example(), 'a', 1 << 27, sizes{e: api.ErrRange}},
		{"too great, not there", f, 11, 1 << 27, sizes{e: api.ErrRange}},
		{"far too great", example(), 'a', math.MaxInt, sizes{e: api.ErrRange}},
		{"far too small", example(), 'a', math.MinInt, sizes{e: api.ErrRange}},
		{"all four", f, 16, 1 << 20, sizes{mostFix, leastFix, mostFix, leastFix, api.OK}},
		{"the other four", f, 18, 1 << 20, sizes{leastFix, mostFix, leastFix, mostFix, api.OK}},
		{"all 0", f, 15, 1<<27 - 1, sizes{0, 0, 0, 0, api.OK}},
		{"the least", f, 13, 1 << 20, sizes{300, -7, 5, 9, api.OK}},
	} {
		if got := sizesOf(x.f, x.c, x.at); got != x.want {
			t.Errorf("%s: At = %v; want %v", x.name, got, x.want)
		}
	}
}

func TestP305AtIsSize(t *testing.T) {
	f := rich()
	for _, at := range someSizes() {
		for c := range 256 {
			m, found := font.Metric(f, byte(c))
			want := sizes{e: api.ErrChar}
			if found {
				w, _ := font.Size(at, m.W)
				h, _ := font.Size(at, m.H)
				d, _ := font.Size(at, m.D)
				italic, _ := font.Size(at, m.Italic)
				want = sizes{w, h, d, italic, api.OK}
			}
			if got := sizesOf(f, byte(c), at); got != want {
				t.Errorf("At(%d, %d) = %v; want %v", c, at, got, want)
			}
		}
	}
}

func TestP305Next(t *testing.T) {
	all := many(256)
	chain(&all, upwards(256)...)
	meet := many(6)
	chain(&meet, 0, 4, 3, 5)
	chain(&meet, 1, 4)
	chain(&meet, 2, 3)
	for _, x := range []struct {
		name string
		f    api.Font
		c    byte
		want []byte
		e    api.Errno
	}{
		{"none", example(), 'a', []byte{'a'}, api.OK},
		{"not there", example(), 'b', nil, api.ErrChar},
		{"ahead of all", example(), 0, nil, api.ErrChar},
		{"amid", rich(), 11, nil, api.ErrChar},
		{"none at all", bare(), 0, nil, api.ErrChar},
		{"of a program", rich(), 10, []byte{10}, api.OK},
		{"of pieces", rich(), 14, []byte{14}, api.OK},
		{"two more", rich(), 12, []byte{12, 13, 20}, api.OK},
		{"one more", rich(), 13, []byte{13, 20}, api.OK},
		{"the last", rich(), 20, []byte{20}, api.OK},
		{"one way", meet, 0, []byte{0, 4, 3, 5}, api.OK},
		{"another way", meet, 1, []byte{1, 4, 3, 5}, api.OK},
		{"a third way", meet, 2, []byte{2, 3, 5}, api.OK},
		{"all", all, 0, bytesUp(0), api.OK},
		{"most", all, 100, bytesUp(100), api.OK},
		{"the last of all", all, 255, []byte{255}, api.OK},
	} {
		if got, e := font.Next(x.f, x.c); !slices.Equal(got, x.want) || e != x.e {
			t.Errorf("%s: Next = %v, %d; want %v, %d", x.name, got, e, x.want, x.e)
		}
	}
}

func bytesUp(first int) (l []byte) {
	for c := first; c < 256; c++ {
		l = append(l, byte(c))
	}
	return l
}

func TestP306(t *testing.T) {
	for _, x := range []struct{ at, x, want int }{
		{655360, -1 << 20, -655360}, {655360, 1 << 20, 655360}, {655360, 1 << 19, 327680},
		{655360, 1, 0}, {655360, 2, 1}, {655360, 3, 1}, {655360, 4, 2}, {655360, -1, -1}, {655360, -2, -2}, {655360, -3, -2}, {655360, -4, -3},
		{1, mostFix, 15}, {1, leastFix, -16}, {1, 1 << 20, 1}, {1, 1<<20 - 1, 0}, {1, 1 - 1<<20, -1}, {1, -1<<20 - 1, -2},
		// z is halved once and loses 1, so that 1<<23 + 1 is set as 1<<23 is.
		{1<<23 - 1, 1 << 20, 1<<23 - 1}, {1 << 23, 1 << 20, 1 << 23}, {1<<23 + 1, 1 << 20, 1 << 23}, {1<<23 + 2, 1 << 20, 1<<23 + 2}, {1<<23 + 1, -1 << 20, -1 << 23},
		{1<<23 + 1, mostFix, 1<<27 - 8}, {1<<23 + 1, leastFix, -1 << 27},
		// z is 8388607, alpha 256 of it, beta 1.
		{1<<27 - 1, 1 << 20, 16 * 8388607}, {1<<27 - 1, -1 << 20, -16 * 8388607}, {1<<27 - 1, leastFix, -256 * 8388607}, {1<<27 - 1, 1, 127}, {1<<27 - 1, -1, -128}, {1<<27 - 1, 256, 32767}, {1<<27 - 1, mostFix, 256*8388607 - 128},
	} {
		if got, e := font.Size(x.at, x.x); got != x.want || e != api.OK {
			t.Errorf("Size(%d, %d) = %d, %d; want %d", x.at, x.x, got, e, x.want)
		}
	}
}

// The chapter's way, word by word, with quotients that go to the whole number below.
func TestP306Way(t *testing.T) {
	for _, at := range someSizes() {
		z, alpha := at, 16
		for z >= 1<<23 {
			z, alpha = z>>1, 2*alpha
		}
		beta := 256 / alpha
		alpha *= z
		for _, x := range someFixes() {
			n := uint32(int32(x))
			want := ((int(n&255)*z>>8+int(n>>8&255)*z)>>8 + int(n>>16&255)*z) / beta
			if n>>24 == 255 {
				want -= alpha
			}
			if got, e := font.Size(at, x); got != want || e != api.OK {
				t.Errorf("Size(%d, %d) = %d, %d; want %d", at, x, got, e, want)
			}
		}
	}
}

func TestP308(t *testing.T) {
	for _, at := range someSizes() {
		if got, e := font.Size(at, 0); got != 0 || e != api.OK {
			t.Errorf("Size(%d, 0) = %d, %d", at, got, e)
		}
		if got, _ := font.Size(at, 1<<20); at < 1<<23 && got != at {
			t.Errorf("Size(%d, 2^20) = %d", at, got)
		}
		before := math.MinInt
		for _, x := range someFixes() {
			got, e := font.Size(at, x)
			if got < before || e != api.OK {
				t.Errorf("Size(%d, %d) = %d, %d, which is less than for the one below", at, x, got, e)
			}
			if x >= 0 && got<<20 > x*at {
				t.Errorf("Size(%d, %d) = %d is too great", at, x, got)
			}
			before = got
		}
	}
}

// Each x by itself, around where its bytes change.
func TestP308Steps(t *testing.T) {
	for _, at := range []int{1, 655361, 1<<23 - 1, 1<<24 + 3, 1<<27 - 1} {
		for _, around := range []int{leastFix + 600, -1 << 16, 0, 1 << 16, 1 << 20, mostFix - 600} {
			before := math.MinInt
			for x := around - 600; x <= around+600; x++ {
				got, e := font.Size(at, x)
				if got < before || e != api.OK {
					t.Errorf("Size(%d, %d) = %d, %d, which is less than for the one below", at, x, got, e)
				}
				before = got
			}
		}
	}
}
