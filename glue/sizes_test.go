package glue_test

import (
	"slices"
	"testing"

	"galley/api"
	"galley/glue"
)

// sizesByTheChapter: each piece by its own two Shares, the sum ahead of it made anew.
func sizesByTheChapter(l []api.Glue, s setting) ([]int, api.Errno) {
	sum, out := 0, []int{}
	for _, g := range l {
		amount, order, side := g.Stretch, g.StretchOrder, 1
		if s.sign == api.Shrinking {
			amount, order, side = g.Shrink, g.ShrinkOrder, -1
		}
		size := g.Nat
		if s.sign != api.Still && order == s.order {
			now, e1 := share(sum+amount, s.num, s.den)
			before, e2 := share(sum, s.num, s.den)
			if e1 != api.OK || e2 != api.OK {
				return nil, api.ErrArith
			}
			size += side * (now - before)
			sum += amount
		}
		out = append(out, size)
	}
	return out, api.OK
}

func TestP27(t *testing.T) {
	g := api.Glue{Stretch: 1}
	mixed := []api.Glue{of(10, 1, 0, 2, 1), of(20, 1, 1, 2, 0), of(30, 1, 1, 3, 1), of(40, 0, 1, 0, 0), of(50, -2, 1, -2, 0)}
	for _, x := range []struct {
		l    []api.Glue
		s    setting
		want []int
	}{
		{row(g, 3), setting{api.Stretching, 0, 5, 3}, []int{2, 1, 2}},
		{row(g, 3), setting{api.Shrinking, 0, 5, 3}, []int{0, 0, 0}},
		{row(g, 3), setting{api.Stretching, 1, 5, 3}, []int{0, 0, 0}},
		{row(g, 3), setting{api.Stretching, 0, -5, 3}, []int{-2, -1, -2}},
		{row(of(100, 0, 0, 1, 3), 3), setting{api.Shrinking, 3, 5, 3}, []int{98, 99, 98}},
		{row(of(100, 0, 0, -1, 3), 3), setting{api.Shrinking, 3, 5, 3}, []int{102, 101, 102}},
		{mixed, setting{api.Still, 0, 0, 0}, []int{10, 20, 30, 40, 50}},
		{mixed, setting{api.Still, 3, 7, -9}, []int{10, 20, 30, 40, 50}},
		{mixed, setting{api.Stretching, 0, 7, 1}, []int{17, 20, 30, 40, 50}},
		{mixed, setting{api.Stretching, 1, 7, 2}, []int{10, 24, 33, 40, 43}},
		{mixed, setting{api.Stretching, 2, 7, 1}, []int{10, 20, 30, 40, 50}},
		{mixed, setting{api.Shrinking, 0, 7, 2}, []int{10, 13, 30, 40, 57}},
		{mixed, setting{api.Shrinking, 1, 7, 4}, []int{6, 20, 25, 40, 50}},
		{nil, setting{api.Stretching, 3, 1, 1}, nil},
		{[]api.Glue{}, setting{api.Shrinking, 0, -most, most}, nil},
		// bounds of num and den
		{[]api.Glue{of(0, 1, 0, 1, 0)}, setting{api.Stretching, 0, most, 1}, []int{most}},
		{[]api.Glue{of(5, 1, 0, 1, 0)}, setting{api.Shrinking, 0, most, 1}, []int{5 - most}},
		{[]api.Glue{of(5, 1, 0, 1, 0)}, setting{api.Stretching, 0, -most, most}, []int{4}},
		{[]api.Glue{of(5, 1, 0, 1, 0)}, setting{api.Still, 0, -most, -most}, []int{5}},
		{[]api.Glue{of(5, -1, 0, 1, 0), of(5, 2, 0, 1, 0)}, setting{api.Stretching, 0, most, 1}, []int{5 - most, 5 + 2*most}},
	} {
		got, e := sizes(x.l, x.s)
		if !slices.Equal(got, x.want) || e != api.OK {
			t.Errorf("Sizes(%v, %v) = %v, %d; want %v", x.l, x.s, got, e, x.want)
		}
	}
}

func TestP27Wrong(t *testing.T) {
	// Of great a Share is too great, so that it tells whether each other error comes ahead of ErrArith.
	great := []api.Glue{of(0, 2, 0, 2, 1)}
	type wrongCase struct {
		l []api.Glue
		s setting
		e api.Errno
	}
	var l []wrongCase
	for e, rows := range wrongRows() {
		for _, r := range rows {
			l = append(l, wrongCase{r, setting{api.Still, 0, 0, 0}, e}, wrongCase{r, setting{9, 9, most + 1, 0}, e})
		}
	}
	for _, n := range []int{-1, 3, 4, 1 << 32, -1 << 32} {
		l = append(l, wrongCase{great, setting{n, 0, 1, 1}, api.ErrArg}, wrongCase{nil, setting{n, 0, most + 1, 0}, api.ErrArg})
	}
	for _, n := range []int{-1, 4, 5, 1 << 32, -1 << 32} {
		for sign := range 3 {
			l = append(l, wrongCase{great, setting{sign, n, 1, 1}, api.ErrArg}, wrongCase{nil, setting{sign, n, 1, 0}, api.ErrArg})
		}
	}
	for _, n := range far() {
		for sign := range 3 {
			l = append(l, wrongCase{great, setting{sign, 0, n, 1}, api.ErrRange}, wrongCase{great, setting{sign, 0, 1, n}, api.ErrRange}, wrongCase{nil, setting{sign, 3, n, n}, api.ErrRange})
		}
	}
	for _, n := range []int{0, -1, -most} {
		for _, sign := range []int{api.Stretching, api.Shrinking} {
			l = append(l, wrongCase{great, setting{sign, 0, most, n}, api.ErrRange}, wrongCase{nil, setting{sign, 0, 1, n}, api.ErrRange})
		}
	}
	l = append(l,
		wrongCase{great, setting{api.Stretching, 0, most, 1}, api.ErrArith},
		wrongCase{great, setting{api.Shrinking, 1, most, 1}, api.ErrArith},
		wrongCase{great, setting{api.Stretching, 0, -most, 1}, api.ErrArith},
		// each Share is too great alone, though all together come to nothing
		wrongCase{[]api.Glue{of(0, 2, 0, 0, 0), of(0, -2, 0, 0, 0)}, setting{api.Stretching, 0, most, 1}, api.ErrArith},
		wrongCase{[]api.Glue{of(0, 1, 0, 0, 0), of(0, 1, 0, 0, 0)}, setting{api.Stretching, 0, most, 1}, api.ErrArith},
		wrongCase{row(of(0, api.MaxDimen, 2, 0, 0), api.MaxNodes), setting{api.Stretching, 2, most, most / 2048}, api.ErrArith})
	for _, c := range l {
		if got, e := sizes(c.l, c.s); len(got) != 0 || e != c.e {
			t.Errorf("Sizes of %d pieces, %v = %v, %d; want the error %d alone", len(c.l), c.s, got, e, c.e)
		}
	}
}

// A Share that is not named may be too great: that of a piece of another order, or of a row that is still.
func TestP27Unnamed(t *testing.T) {
	great := []api.Glue{of(7, 2, 0, 2, 1)}
	for _, s := range []setting{{api.Still, 0, most, 1}, {api.Still, 1, most, 1}, {api.Stretching, 1, most, 1}, {api.Shrinking, 0, most, 1}} {
		if got, e := sizes(great, s); !slices.Equal(got, []int{7}) || e != api.OK {
			t.Errorf("Sizes(%v, %v) = %v, %d; want 7", great, s, got, e)
		}
	}
}

func TestP27Exact(t *testing.T) {
	r := &random{8}
	for range 20000 {
		l := r.row(r.below(12))
		s := setting{r.below(3), r.below(4), r.wide(), 0}
		s.den = max(1, r.wide())
		want, wantErr := sizesByTheChapter(l, s)
		if got, e := sizes(l, s); !slices.Equal(got, want) || e != wantErr {
			t.Fatalf("Sizes(%v, %v) = %v, %d; want %v, %d", l, s, got, e, want, wantErr)
		}
	}
}

// setRows: rows of all kinds, each set to come to an excess.
func setRows(t *testing.T, seed uint64, do func(l []api.Glue, sums api.Totals, excess int, s setting, got []int)) {
	t.Helper()
	r := &random{seed}
	signs := [3]int{}
	for i := range 20000 {
		l := r.row(r.below(12))
		if i%500 == 0 {
			l = r.row(api.MaxNodes)
		}
		if i%2 == 0 {
			for j := range l {
				l[j] = positive(l[j])
			}
		}
		sums, e := glue.Sum(l)
		if e != api.OK {
			t.Fatalf("Sum(%v): %d", l, e)
		}
		excess := r.size()
		f := fit(sums, excess)
		if f.e != api.OK {
			t.Fatalf("Fit(%v, %d): %d", sums, excess, f.e)
		}
		got, e := sizes(l, f.setting)
		if e == api.ErrArith {
			continue
		}
		if e != api.OK || len(got) != len(l) {
			t.Fatalf("Sizes(%v, %v) = %v, %d", l, f.setting, got, e)
		}
		signs[f.sign]++
		do(l, sums, excess, f.setting, got)
	}
	if min(signs[api.Still], signs[api.Stretching], signs[api.Shrinking]) < 1000 {
		t.Errorf("too few rows were set: %v", signs)
	}
}

func TestP28(t *testing.T) {
	setRows(t, 9, func(l []api.Glue, sums api.Totals, excess int, s setting, got []int) {
		all := 0
		for _, size := range got {
			all += size
		}
		want := sums.Nat
		switch {
		case s.sign == api.Stretching || s.sign == api.Shrinking && s.num == -excess:
			want += excess
		case s.sign == api.Shrinking:
			want -= sums.Shrink[0]
		}
		if all != want {
			t.Fatalf("%v, set for %d by %v: %v, together %d; want %d", l, excess, s, got, all, want)
		}
	})
}

// fair: is a piece's size no farther off than it may be?
func fair(g api.Glue, s setting, size int, strictly bool) bool {
	amount, order, by := g.Stretch, g.StretchOrder, size-g.Nat
	if s.sign == api.Shrinking {
		amount, order, by = g.Shrink, g.ShrinkOrder, g.Nat-size
	}
	if s.sign == api.Still || order != s.order {
		return by == 0
	}
	off := by*s.den - s.num*amount
	return max(off, -off) < s.den || !strictly && max(off, -off) == s.den
}

// Numbers are so small here that the products stay exact.
func TestP29(t *testing.T) {
	r := &random{10}
	for i := range 20000 {
		l := row(api.Glue{}, r.below(12))
		for j := range l {
			l[j] = of(r.size(), r.below(200)-100, r.below(2), r.below(200)-100, r.below(2))
		}
		s := setting{r.below(3), r.below(2), r.below(400) - 200, 1 + r.below(50)}
		strictly := i%2 == 0
		if strictly {
			s.num = max(s.num, -s.num)
			for j := range l {
				l[j] = positive(l[j])
			}
		}
		got, e := sizes(l, s)
		if e != api.OK {
			t.Fatalf("Sizes(%v, %v): %d", l, s, e)
		}
		for j, g := range l {
			if !fair(g, s, got[j], strictly) {
				t.Fatalf("Sizes(%v, %v) = %v: the piece at %d is too far off", l, s, got, j)
			}
		}
	}
}

func TestP210(t *testing.T) {
	setRows(t, 11, func(l []api.Glue, sums api.Totals, excess int, s setting, got []int) {
		for many := 0; many <= len(l); many += 1 + len(l)/12 {
			part, e := sizes(l[:many], s)
			if !slices.Equal(part, got[:many]) || e != api.OK {
				t.Fatalf("the first %d of %v, set by %v: %v, %d; of the whole row %v", many, l, s, part, e, got)
			}
		}
		for i, g := range l {
			other := s.sign == api.Stretching && g.StretchOrder != s.order || s.sign == api.Shrinking && g.ShrinkOrder != s.order
			if other && got[i] != g.Nat {
				t.Fatalf("%v, set by %v: %v; the piece at %d is of another order", l, s, got, i)
			}
		}
	})
}

// DOC.md's rules: rows that are handed in stay as they were, and an answer shares nothing with another.
func TestP21Pure(t *testing.T) {
	r := &random{12}
	room := r.row(20)
	kept := slices.Clone(room)
	l := room[:10]
	s := setting{api.Stretching, 0, 7, 3}
	first, e1 := sizes(l, s)
	sums, e2 := glue.Sum(l)
	if e1 != api.OK || e2 != api.OK || !slices.Equal(room, kept) {
		t.Fatalf("errors %d, %d, or the row was changed: %v; it was %v", e1, e2, room, kept)
	}
	want := slices.Clone(first)
	for i := range cap(first) {
		first[:cap(first)][i] = -1
	}
	second, e1 := sizes(l, s)
	again, e2 := glue.Sum(l)
	if e1 != api.OK || e2 != api.OK || !slices.Equal(second, want) || sums != again {
		t.Errorf("%v, %v; the second time %v, %v", want, sums, second, again)
	}
}
