package scaled_test

import (
	"math"
	"math/big"
	"strconv"
	"testing"

	"galley/api"
	"galley/scaled"
)

// answer: what a call answered, of one number or of two.
type answer struct {
	a, b int
	e    api.Errno
}

func one(a int, e api.Errno) answer     { return answer{a, 0, e} }
func two(a, b int, e api.Errno) answer  { return answer{a, b, e} }
func wrong(e api.Errno) answer          { return answer{0, 0, e} }
func add(x [3]int) answer               { return one(scaled.Add(x[0], x[1])) }
func times(x [3]int) answer             { return one(scaled.Times(x[0], x[1], x[2])) }
func over(x [3]int) answer              { return two(scaled.Over(x[0], x[1])) }
func frac(x [3]int) answer              { return two(scaled.Frac(x[0], x[1], x[2])) }
func part(x [3]int) answer              { return one(scaled.Part(x[0], x[1], x[2])) }
func badness(x [3]int) answer           { return one(scaled.Badness(x[0], x[1])) }
func product(x, n int) *big.Int         { return new(big.Int).Mul(big.NewInt(int64(x)), big.NewInt(int64(n))) }
func sum(a *big.Int, b int) *big.Int    { return new(big.Int).Add(a, big.NewInt(int64(b))) }
func within(x *big.Int, limit int) bool { return x.CmpAbs(big.NewInt(int64(limit))) <= 0 }
func show(name string, x [3]int) string { return name + "(" + numbers(x[:]) + ")" }
func numbers(l []int) string            { return join(l, ", ") }
func join(l []int, between string) (s string) {
	for i, n := range l {
		if i > 0 {
			s += between
		}
		s += strconv.Itoa(n)
	}
	return s
}

// call: one of the calls of numbers, how many arguments it has, and how many of them P101 limits.
type call struct {
	name          string
	do            func([3]int) answer
	many, limited int
}

func calls() []call {
	return []call{{"Add", add, 2, 2}, {"Times", times, 3, 3}, {"Over", over, 2, 2}, {"Frac", frac, 3, 3}, {"Part", part, 3, 1}, {"Badness", badness, 2, 2}}
}

// numbersTo: edges, and numbers that a short rule spreads over all sizes.
func numbersTo(limit int) []int {
	l := []int{0, 1, 2, 3, 7, 10, 100, 296, 297, 298, 65535, 65536, 65537, 1663496, 1663497, 7230584, 7230585, api.MaxDimen - 1, api.MaxDimen, api.MaxDimen + 1, api.MaxNumber - 1, api.MaxNumber}
	x := uint64(12345)
	for i := 0; i < 40; i++ {
		x = x*6364136223846793005 + 1442695040888963407
		l = append(l, int(x>>33)>>(i%31))
	}
	var out []int
	for _, n := range l {
		if n <= limit {
			out = append(out, n, -n)
		}
	}
	return out
}

func TestP101Range(t *testing.T) {
	other := [][3]int{{0, 0, 0}, {1, 1, 1}, {-1, -1, -1}, {5, -2, 0}, {api.MaxNumber, api.MaxNumber, api.MaxNumber}}
	for _, c := range calls() {
		for at := 0; at < c.limited; at++ {
			for _, x := range other {
				for _, far := range []int{api.MaxNumber + 1, -api.MaxNumber - 1, math.MaxInt, math.MinInt, 1 << 32, -1 << 32} {
					x[at] = far
					if got := c.do(x); got != wrong(api.ErrRange) {
						t.Errorf("%s = %v; want ErrRange alone", show(c.name, x), got)
					}
				}
				for _, near := range []int{api.MaxNumber, -api.MaxNumber} {
					x[at] = near
					if got := c.do(x); got.e == api.ErrRange {
						t.Errorf("%s: ErrRange", show(c.name, x))
					}
				}
			}
		}
	}
}

func TestP101Pure(t *testing.T) {
	edges := []int{math.MinInt, -1 << 60, -api.MaxNumber - 1, -api.MaxNumber, -1, 0, 1, 2, api.MaxNumber, api.MaxNumber + 1, 1<<60 - 1, 1 << 60, 1<<60 + 1, math.MaxInt}
	for _, c := range calls() {
		for _, a := range edges {
			for _, b := range edges {
				for _, d := range edges {
					x := [3]int{a, b, d}
					got := c.do(x)
					if got.e != api.OK && (got.a != 0 || got.b != 0) {
						t.Errorf("%s = %v: more than an error", show(c.name, x), got)
					}
					if again := c.do(x); again != got {
						t.Errorf("%s = %v, then %v", show(c.name, x), got, again)
					}
				}
			}
		}
	}
}

func TestP102Add(t *testing.T) {
	for _, x := range []struct {
		a, b int
		want answer
	}{
		{0, 0, one(0, api.OK)},
		{2, 3, one(5, api.OK)},
		{-2, 3, one(1, api.OK)},
		{2, -3, one(-1, api.OK)},
		{api.MaxDimen, 0, one(api.MaxDimen, api.OK)},
		{api.MaxDimen - 1, 1, one(api.MaxDimen, api.OK)},
		{api.MaxDimen, 1, wrong(api.ErrArith)},
		{-api.MaxDimen, 0, one(-api.MaxDimen, api.OK)},
		{1 - api.MaxDimen, -1, one(-api.MaxDimen, api.OK)},
		{-api.MaxDimen, -1, wrong(api.ErrArith)},
		{api.MaxNumber, -api.MaxDimen - 1, one(api.MaxDimen, api.OK)},
		{api.MaxNumber, -api.MaxDimen, wrong(api.ErrArith)},
		{api.MaxNumber, -api.MaxNumber, one(0, api.OK)},
		{api.MaxNumber, api.MaxNumber, wrong(api.ErrArith)},
		{-api.MaxNumber, -api.MaxNumber, wrong(api.ErrArith)},
	} {
		if got := one(scaled.Add(x.a, x.b)); got != x.want {
			t.Errorf("Add(%d, %d) = %v; want %v", x.a, x.b, got, x.want)
		}
	}
}

func TestP102Times(t *testing.T) {
	for _, x := range []struct {
		n, x, y int
		want    answer
	}{
		{0, 0, 0, one(0, api.OK)},
		{3, 5, 7, one(22, api.OK)},
		{-3, 5, 7, one(-8, api.OK)},
		{3, -5, -7, one(-22, api.OK)},
		{1, api.MaxDimen, 0, one(api.MaxDimen, api.OK)},
		{1, api.MaxDimen, 1, wrong(api.ErrArith)},
		{-1, api.MaxDimen, 0, one(-api.MaxDimen, api.OK)},
		{-1, api.MaxDimen, -1, wrong(api.ErrArith)},
		{2, api.MaxNumber, -api.MaxNumber, wrong(api.ErrArith)},
		{1, api.MaxNumber, -api.MaxDimen - 1, one(api.MaxDimen, api.OK)},
		{1, api.MaxNumber, -api.MaxDimen, wrong(api.ErrArith)},
		{32768, 32768, -1, one(api.MaxDimen, api.OK)},
		{32768, 32768, 0, wrong(api.ErrArith)},
		{65536, 65536, 0, wrong(api.ErrArith)},
		{api.MaxNumber, api.MaxNumber, api.MaxNumber, wrong(api.ErrArith)},
		{-api.MaxNumber, api.MaxNumber, -api.MaxNumber, wrong(api.ErrArith)},
	} {
		if got := one(scaled.Times(x.n, x.x, x.y)); got != x.want {
			t.Errorf("Times(%d, %d, %d) = %v; want %v", x.n, x.x, x.y, got, x.want)
		}
	}
}

func TestP102Exact(t *testing.T) {
	l := numbersTo(api.MaxNumber)
	for i, n := range l {
		for j, x := range l {
			y := l[(7*i+3*j)%len(l)]
			for _, c := range []struct {
				name string
				got  answer
				want *big.Int
			}{
				{"Add", one(scaled.Add(n, x)), sum(big.NewInt(int64(n)), x)},
				{"Times", one(scaled.Times(n, x, y)), sum(product(n, x), y)},
			} {
				want := wrong(api.ErrArith)
				if within(c.want, api.MaxDimen) {
					want = one(int(c.want.Int64()), api.OK)
				}
				if c.got != want {
					t.Errorf("%s of %d, %d, %d = %v; want %v", c.name, n, x, y, c.got, want)
				}
			}
		}
	}
}

func TestP103Over(t *testing.T) {
	for _, x := range []struct {
		x, n int
		want answer
	}{
		{7, 2, two(3, 1, api.OK)},
		{-7, 2, two(-3, -1, api.OK)},
		{7, -2, two(-3, 1, api.OK)},
		{-7, -2, two(3, -1, api.OK)},
		{6, 3, two(2, 0, api.OK)},
		{0, 5, two(0, 0, api.OK)},
		{1, 2, two(0, 1, api.OK)},
		{-1, 2, two(0, -1, api.OK)},
		{0, 0, wrong(api.ErrArith)},
		{1, 0, wrong(api.ErrArith)},
		{-api.MaxNumber, 0, wrong(api.ErrArith)},
		{api.MaxNumber, 1, two(api.MaxNumber, 0, api.OK)},
		{-api.MaxNumber, 1, two(-api.MaxNumber, 0, api.OK)},
		{-api.MaxNumber, -1, two(api.MaxNumber, 0, api.OK)},
		{api.MaxNumber - 1, api.MaxNumber, two(0, api.MaxNumber-1, api.OK)},
	} {
		if got := two(scaled.Over(x.x, x.n)); got != x.want {
			t.Errorf("Over(%d, %d) = %v; want %v", x.x, x.n, got, x.want)
		}
	}
}

func TestP103Frac(t *testing.T) {
	for _, x := range []struct {
		x, n, d int
		want    answer
	}{
		{10, 1, 3, two(3, 1, api.OK)},
		{-10, 1, 3, two(-3, -1, api.OK)},
		{10, 2, 3, two(6, 2, api.OK)},
		{-10, 2, 3, two(-6, -2, api.OK)},
		{10, 0, 3, two(0, 0, api.OK)},
		{0, 5, 3, two(0, 0, api.OK)},
		{5, 3, 1, two(15, 0, api.OK)},
		{10, -1, 3, wrong(api.ErrArg)},
		{10, 1, 0, wrong(api.ErrArg)},
		{10, 1, -3, wrong(api.ErrArg)},
		{10, -1, -3, wrong(api.ErrArg)},
		{api.MaxNumber, api.MaxNumber, 0, wrong(api.ErrArg)},
		{api.MaxDimen, 1, 1, two(api.MaxDimen, 0, api.OK)},
		{-api.MaxDimen, 1, 1, two(-api.MaxDimen, 0, api.OK)},
		{api.MaxDimen + 1, 1, 1, wrong(api.ErrArith)},
		{-api.MaxDimen - 1, 1, 1, wrong(api.ErrArith)},
		{api.MaxNumber, 1, 2, two(api.MaxDimen, 1, api.OK)},
		{-api.MaxNumber, 1, 2, two(-api.MaxDimen, -1, api.OK)},
		{api.MaxNumber, api.MaxNumber, 1, wrong(api.ErrArith)},
		{-api.MaxNumber, api.MaxNumber, 1, wrong(api.ErrArith)},
		{api.MaxDimen, api.MaxNumber, api.MaxNumber, two(api.MaxDimen, 0, api.OK)},
		{api.MaxNumber, api.MaxNumber, api.MaxNumber, wrong(api.ErrArith)},
		{65536, 65536, 65536, two(65536, 0, api.OK)},
	} {
		if got := two(scaled.Frac(x.x, x.n, x.d)); got != x.want {
			t.Errorf("Frac(%d, %d, %d) = %v; want %v", x.x, x.n, x.d, got, x.want)
		}
	}
}

func TestP103Part(t *testing.T) {
	for _, x := range []struct {
		x, n, d int
		want    answer
	}{
		{5, 1, 2, one(3, api.OK)},
		{-5, 1, 2, one(-3, api.OK)},
		{5, 1, 3, one(2, api.OK)},
		{-5, 1, 3, one(-2, api.OK)},
		{4, 1, 3, one(1, api.OK)},
		{-4, 1, 3, one(-1, api.OK)},
		{1, 1, 2, one(1, api.OK)},
		{-1, 1, 2, one(-1, api.OK)},
		{1, 1, 3, one(0, api.OK)},
		{7, 0, 3, one(0, api.OK)},
		{7, 3, 3, one(7, api.OK)},
		{0, 1, 3, one(0, api.OK)},
		{7, -1, 3, wrong(api.ErrArg)},
		{7, 4, 3, wrong(api.ErrArg)},
		{7, 0, 0, wrong(api.ErrArg)},
		{7, -1, -1, wrong(api.ErrArg)},
		{7, -2, -1, wrong(api.ErrArg)},
		{7, 1 << 60, 1 << 60, one(7, api.OK)},
		{7, 0, 1 << 60, one(0, api.OK)},
		{7, 0, 1<<60 + 1, wrong(api.ErrArg)},
		{7, 1<<60 + 1, 1<<60 + 1, wrong(api.ErrArg)},
		{7, math.MaxInt, math.MaxInt, wrong(api.ErrArg)},
		{7, math.MinInt, 1, wrong(api.ErrArg)},
		{1, 1 << 59, 1 << 60, one(1, api.OK)},
		{1, 1<<59 - 1, 1 << 60, one(0, api.OK)},
		{-1, 1 << 59, 1 << 60, one(-1, api.OK)},
		{-1, 1<<59 - 1, 1 << 60, one(0, api.OK)},
		{api.MaxNumber, 1 << 60, 1 << 60, one(api.MaxNumber, api.OK)},
		{-api.MaxNumber, 1 << 60, 1 << 60, one(-api.MaxNumber, api.OK)},
		{api.MaxNumber, 1<<60 - 1, 1 << 60, one(api.MaxNumber, api.OK)},
	} {
		if got := one(scaled.Part(x.x, x.n, x.d)); got != x.want {
			t.Errorf("Part(%d, %d, %d) = %v; want %v", x.x, x.n, x.d, got, x.want)
		}
	}
}

func TestP104(t *testing.T) {
	for _, x := range []struct {
		t, s int
		want answer
	}{
		{0, 0, one(0, api.OK)},
		{0, -1, one(0, api.OK)},
		{0, 65536, one(0, api.OK)},
		{-1, 65536, wrong(api.ErrArg)},
		{-1, 0, wrong(api.ErrArg)},
		{-api.MaxNumber, api.MaxNumber, wrong(api.ErrArg)},
		{1, 0, one(10000, api.OK)},
		{1, -1, one(10000, api.OK)},
		{1, -api.MaxNumber, one(10000, api.OK)},
		{1, 1, one(100, api.OK)},
		{2, 1, one(800, api.OK)},
		{65536, 65536, one(100, api.OK)},
		{50, 297, one(0, api.OK)},
		{51, 297, one(1, api.OK)},
		{1290, 297, one(8189, api.OK)},
		{1291, 297, one(10000, api.OK)},
		{7230584, 1663496, one(8189, api.OK)},
		{7230585, 1663496, one(10000, api.OK)},
		{7230585, 1663497, one(8189, api.OK)},
		{7230584, 1664716, one(8170, api.OK)},
		{7230585, 1664717, one(8189, api.OK)},
		{7230584, 7230584, one(100, api.OK)},
		{7230585, 7230585, one(100, api.OK)},
		{7230584, 1, one(10000, api.OK)},
		{7230585, 1, one(10000, api.OK)},
		{api.MaxNumber, api.MaxNumber, one(100, api.OK)},
		{1, api.MaxNumber, one(0, api.OK)},
		{api.MaxNumber, 1, one(10000, api.OK)},
	} {
		if got := one(scaled.Badness(x.t, x.s)); got != x.want {
			t.Errorf("Badness(%d, %d) = %v; want %v", x.t, x.s, got, x.want)
		}
	}
}

func TestP104Cubes(t *testing.T) {
	for r := 0; r <= 1290; r++ {
		// With s 297, r is t; half of 2^18 is added, so that badness is the cube's 2^-18, rounded.
		want := r * r * r >> 18
		if r*r*r&(1<<18-1) >= 1<<17 {
			want++
		}
		if got := one(scaled.Badness(r, 297)); got != one(want, api.OK) {
			t.Errorf("Badness(%d, 297) = %v; want %d", r, got, want)
		}
	}
}

// quotientRight: is q d + rest the dividend, and rest on its side and less than d?
func quotientRight(dividend *big.Int, q, rest, d int) bool {
	left := big.NewInt(int64(rest))
	return sum(product(q, d), rest).Cmp(dividend) == 0 && left.CmpAbs(big.NewInt(int64(d))) < 0 && (rest == 0 || left.Sign() == dividend.Sign())
}

func TestP110Quotients(t *testing.T) {
	l := numbersTo(api.MaxNumber)
	for i, x := range l {
		for j, n := range l {
			if q, rest, e := scaled.Over(x, n); n != 0 && (e != api.OK || !quotientRight(big.NewInt(int64(x)), q, rest, n)) {
				t.Errorf("Over(%d, %d) = %d, %d, %d", x, n, q, rest, e)
			}
			d := l[(5*i+11*j)%len(l)]
			if n < 0 || d < 1 {
				continue
			}
			q, rest, e := scaled.Frac(x, n, d)
			want := new(big.Int).Quo(product(x, n), big.NewInt(int64(d)))
			if !within(want, api.MaxDimen) {
				if two(q, rest, e) != wrong(api.ErrArith) {
					t.Errorf("Frac(%d, %d, %d) = %d, %d, %d; want ErrArith", x, n, d, q, rest, e)
				}
			} else if e != api.OK || !quotientRight(product(x, n), q, rest, d) {
				t.Errorf("Frac(%d, %d, %d) = %d, %d, %d", x, n, d, q, rest, e)
			}
		}
	}
}

// nearest: x n / d, rounded, of twice the numbers and one d more.
func nearest(x, n, d int) int {
	twice := product(x, n)
	twice.Abs(twice)
	twice = sum(twice.Lsh(twice, 1), d)
	twice.Quo(twice, product(2, d))
	if x < 0 {
		return -int(twice.Int64())
	}
	return int(twice.Int64())
}

func TestP110Part(t *testing.T) {
	l := numbersTo(api.MaxNumber)
	for _, x := range l {
		for _, d := range []int{1, 2, 3, 10, 65536, api.MaxDimen, api.MaxNumber, 1<<45 + 7, 1<<59 + 1, 1<<60 - 1, 1 << 60} {
			for _, k := range l {
				n := k
				if n < 0 {
					n = d + k
				}
				if n < 0 || n > d {
					continue
				}
				a, e := scaled.Part(x, n, d)
				b, f := scaled.Part(x, d-n, d)
				if e != api.OK || f != api.OK || a+b-x > 1 || a+b-x < -1 {
					t.Errorf("Part(%d, %d, %d) and the rest: %d and %d, %d, %d", x, n, d, a, b, e, f)
				}
				if want := nearest(x, n, d); a != want {
					t.Errorf("Part(%d, %d, %d) = %d; want %d", x, n, d, a, want)
				}
			}
		}
	}
}

// notNegative: those of a list from 0 on.
func notNegative(l []int) (out []int) {
	for _, n := range l {
		if n >= 0 {
			out = append(out, n)
		}
	}
	return out
}

func TestP112Grows(t *testing.T) {
	sizes := notNegative(numbersTo(api.MaxNumber - 1))
	for _, a := range sizes {
		for _, s := range sizes {
			here, e := scaled.Badness(a, s)
			further, f := scaled.Badness(a+1, s)
			eased, g := scaled.Badness(a, s+1)
			if e != api.OK || f != api.OK || g != api.OK || here < 0 || here > 10000 || further < here || eased > here {
				t.Errorf("Badness(%d, %d) = %d, %d; one more to do: %d, %d; one more to do it with: %d, %d", a, s, here, e, further, f, eased, g)
			}
		}
	}
}

func TestP112GrowsAtTheSeams(t *testing.T) {
	for _, from := range []int{1, 290, 1663490, 1664700, 7230000, 7230570} {
		for s := from; s < from+600; s++ {
			last := 0
			for a := 7230575; a < 7230595; a++ {
				here, e := scaled.Badness(a, s)
				if e != api.OK || here < last {
					t.Fatalf("Badness(%d, %d) = %d, %d; of one less: %d", a, s, here, e, last)
				}
				last = here
			}
		}
		for a := from; a < from+600; a++ {
			last := 10000
			for s := 1663490; s < 1663510; s++ {
				here, e := scaled.Badness(a, s)
				if e != api.OK || here > last {
					t.Fatalf("Badness(%d, %d) = %d, %d; of one less: %d", a, s, here, e, last)
				}
				last = here
			}
		}
	}
}

func TestP112Numbers(t *testing.T) {
	for _, s := range notNegative(numbersTo(api.MaxNumber)) {
		if b, e := scaled.Badness(s, s); s > 0 && (b != 100 || e != api.OK) {
			t.Errorf("Badness(%d, %d) = %d, %d; want 100", s, s, b, e)
		}
		if b, e := scaled.Badness(0, s); b != 0 || e != api.OK {
			t.Errorf("Badness(0, %d) = %d, %d; want 0", s, b, e)
		}
		if s < 1 || s > 7000000 {
			continue
		}
		least := (51*s + 296) / 297 // the least t whose r is above 50
		if b, e := scaled.Badness(least-1, s); b != 0 || e != api.OK {
			t.Errorf("Badness(%d, %d) = %d, %d; want 0", least-1, s, b, e)
		}
		if b, e := scaled.Badness(least, s); b < 1 || e != api.OK {
			t.Errorf("Badness(%d, %d) = %d, %d; want more than 0", least, s, b, e)
		}
	}
}
