package ligkern_test

import (
	"math"
	"slices"
	"testing"

	"galley/api"
	"galley/ligkern"
)

// finds asks for the step of two marks; its Skip may be any. A want of the zero step: there is none.
func finds(t *testing.T, name string, f api.Font, left, right int, want api.Step) {
	t.Helper()
	s, found, e := ligkern.Find(f, left, right)
	if s != want || found != (want != api.Step{}) || e != api.OK {
		t.Errorf("%s: Find of %d and %d = %v, %v, %d; want %v", name, left, right, s, found, e, want)
	}
}

func TestP42Example(t *testing.T) {
	f := example()
	finds(t, "F", f, 'f', 'i', lig('i', 0, 12))
	finds(t, "F", f, 'f', 'l', api.Step{Skip: 128, Next: 'l', Rest: 13})
	finds(t, "F", f, 'a', 'v', api.Step{Skip: 128, Next: 'v', Op: 128})
	for _, x := range [][2]int{{-1, -1}, {-1, 'f'}, {'f', -1}, {'a', 'i'}, {'a', 'l'}, {'f', 'v'}, {'f', 'f'}, {'l', 'f'}, {'i', 'i'}, {12, 'i'}, {13, 13}} {
		finds(t, "F", f, x[0], x[1], api.Step{})
	}
}

func TestP42Chars(t *testing.T) {
	f := plain("bcx").bounded('z').with('b', lig('c', 0, 'x'), lig('z', 0, 'x')).font()
	for n := -300; n < 600; n++ {
		there := n == -1 || n == 'b' || n == 'c' || n == 'x'
		for _, other := range []int{-1, 'b'} {
			chars(t, f, n, other, there)
			chars(t, f, other, n, there)
		}
	}
	for _, n := range []int{math.MinInt, math.MinInt32, -2, 256, 256 + 'b', 1<<16 + 'b', 1<<32 + 'b', 1<<32 - 1, math.MaxInt32, math.MaxInt} {
		chars(t, f, n, 'b', false)
		chars(t, f, 'b', n, false)
		chars(t, f, n, n, false)
	}
}

// chars: Find and Pair of two marks; are both there?
func chars(t *testing.T, f api.Font, left, right int, there bool) {
	t.Helper()
	want := api.ErrChar
	if there {
		want = api.OK
	}
	if s, found, e := ligkern.Find(f, left, right); e != want || e != api.OK && (found || s != api.Step{}) {
		t.Errorf("Find of %d and %d = %v, %v, %d; want %d", left, right, s, found, e, want)
	}
	if l, e := ligkern.Pair(f, left, right); e != want || e != api.OK && len(l) != 0 {
		t.Errorf("Pair of %d and %d = %v, %d; want %d", left, right, l, e, want)
	}
}

// The first step of those that say something is the one; a step past others is found too.
func TestP42First(t *testing.T) {
	f := plain("abcd").font()
	f.Kerns = make([]int, 4)
	f.Steps = []api.Step{
		{Skip: 1, Next: 'a', Op: 128},
		{Skip: 128, Next: 'b', Op: 128, Rest: 1}, // leapt over
		{Skip: 0, Next: 'c', Op: 128, Rest: 2},
		{Skip: 2, Next: 'a', Op: 128, Rest: 3}, // not the first one of a
		{Skip: 0, Next: 'd', Op: 128, Rest: 1}, // leapt over
		{Skip: 128, Next: 'd', Op: 128, Rest: 1},
		{Skip: 128, Next: 'b', Op: 128, Rest: 3},
		{Skip: 128, Next: 'd', Op: 128, Rest: 3}, // behind the last one
	}
	set(&f, 'a', 1, 0)
	set(&f, 'b', 1, 3)
	set(&f, 'c', 1, 1)
	for x, want := range map[int][4]int{'a': {0, 6, 2, -1}, 'b': {3, 6, -1, -1}, 'c': {-1, 1, -1, -1}, 'd': {-1, -1, -1, -1}} {
		for i, at := range want {
			s := api.Step{}
			if at >= 0 {
				s = f.Steps[at]
			}
			finds(t, "skips", f, x, 'a'+i, s)
		}
	}
}

// A step with Skip of 128 is the last one; above that it says nothing, and is the last one, too.
func TestP42Skips(t *testing.T) {
	for skip := range 256 {
		f := plain("abc").font()
		f.Steps = slices.Repeat([]api.Step{{Skip: 200}}, 131)
		f.Steps[1] = kern('b', 0)
		f.Steps[2] = api.Step{Skip: byte(skip), Next: 'a', Op: 0, Rest: 1}
		if skip <= 128 {
			f.Steps[2].Rest = 'a'
		}
		if skip < 128 {
			f.Steps[3+skip] = api.Step{Skip: 128, Next: 'c', Op: 128, Rest: 1}
		}
		set(&f, 'b', 1, 1)
		finds(t, "ahead", f, 'b', 'b', kern('b', 0))
		if skip > 128 {
			finds(t, "says nothing", f, 'b', 'a', api.Step{})
			finds(t, "behind", f, 'b', 'c', api.Step{})
			continue
		}
		finds(t, "says something", f, 'b', 'a', f.Steps[2])
		if skip < 128 {
			finds(t, "behind", f, 'b', 'c', f.Steps[3+skip])
		}
	}
}

// far: a font whose programs stand far behind: a's step leads there; so does the last one, for Left.
func far() api.Font {
	f := plain("abc").font()
	f.Kerns = make([]int, 1000)
	f.Steps = slices.Repeat([]api.Step{{Skip: 129}}, 800)
	f.Steps[600] = api.Step{Skip: 128, Next: 'b', Op: 128 + 3, Rest: 5}
	f.Steps[700] = api.Step{Skip: 128, Next: 'c', Op: 128 + 3, Rest: 6}
	f.Steps[255] = api.Step{Skip: 129, Next: 'c', Op: 600 >> 8, Rest: 600 & 255}
	f.Steps[799] = api.Step{Skip: 255, Next: 'b', Op: 700 >> 8, Rest: 700 & 255}
	set(&f, 'a', 1, 255)
	return f
}

func TestP42Elsewhere(t *testing.T) {
	f := far()
	finds(t, "far", f, 'a', 'b', f.Steps[600])
	finds(t, "far", f, -1, 'c', f.Steps[700])
	for _, x := range [][2]int{{'a', 'a'}, {'a', 'c'}, {'a', -1}, {-1, 'a'}, {-1, 'b'}, {-1, -1}, {'b', 'b'}, {'c', 'b'}} {
		finds(t, "far", f, x[0], x[1], api.Step{})
	}
	for _, skip := range []byte{129, 130, 200, 254, 255} {
		f.Steps[255].Skip = skip
		finds(t, "far", f, 'a', 'b', f.Steps[600])
	}
	for _, skip := range []byte{129, 130, 200, 254} {
		f.Steps[799].Skip = skip
		finds(t, "far", f, -1, 'c', api.Step{})
	}
}

// A step leads to another place but once: where that one leads on, it says nothing.
func TestP42Once(t *testing.T) {
	f := far()
	f.Steps[255].Op, f.Steps[255].Rest = 500>>8, 500&255
	f.Steps[500] = api.Step{Skip: 129, Next: 'b', Op: 600 >> 8, Rest: 600 & 255}
	finds(t, "led twice", f, 'a', 'b', api.Step{})
	f.Steps[799].Op, f.Steps[799].Rest = 550>>8, 550&255
	f.Steps[550] = api.Step{Skip: 129, Next: 'c', Op: 700 >> 8, Rest: 700 & 255}
	finds(t, "Left led twice", f, -1, 'c', api.Step{})
}

// The first step with Skip 255 may lead to a place, or past the end: then there is no step.
func TestP42Past(t *testing.T) {
	f := plain("ab").bounded('z').with('b', kern('a', 0)).font()
	set(&f, 'a', 1, 0)
	f.Steps[0].Rest = 1
	finds(t, "by the first step", f, 'a', 'a', f.Steps[1])
	for _, at := range []int{0, 2, 3, 255, 256, 65535} {
		f.Steps[0].Op, f.Steps[0].Rest = byte(at>>8), byte(at)
		for _, x := range []int{'a', -1} {
			for _, y := range []int{'a', 'b', -1} {
				finds(t, "past the end", f, x, y, api.Step{})
			}
		}
	}
	for _, at := range []int{0, 1, 255, 65535} {
		f.Steps = []api.Step{{Skip: 255, Next: 'b', Op: byte(at >> 8), Rest: byte(at)}}
		set(&f, 'b', 0, 0)
		for _, x := range []int{'a', -1} {
			for _, y := range []int{'a', 'b', -1} {
				finds(t, "one step alone", f, x, y, api.Step{})
			}
		}
	}
}

// The last step's program is Left's, whatever the first one is; a program may be of both, and of several.
func TestP42Left(t *testing.T) {
	d := plain("abc").with(-1, kern('a', 1), kern('b', 2)).with('c', kern('a', 3))
	for _, f := range []api.Font{d.font(), d.bounded('a').font(), d.bounded('z').font()} {
		last := len(f.Steps) - 1
		finds(t, "Left", f, -1, 'a', f.Steps[last-3])
		finds(t, "Left", f, -1, 'b', f.Steps[last-2])
		finds(t, "Left", f, -1, 'c', api.Step{})
		finds(t, "c", f, 'c', 'a', f.Steps[last-1])
		finds(t, "c", f, 'c', 'b', api.Step{})
		f.Steps[last].Rest++
		finds(t, "Left, later", f, -1, 'a', api.Step{})
		finds(t, "Left, later", f, -1, 'b', f.Steps[last-2])
	}
}

// Right is the boundary character behind a mark, if there is one; that itself has no step as Right.
func TestP42Right(t *testing.T) {
	d := plain("abc").with('a', kern('c', 0), kern('b', 1)).with(-1, kern('b', 2))
	finds(t, "none", d.font(), 'a', -1, api.Step{})
	finds(t, "none", d.font(), -1, -1, api.Step{})
	f := d.bounded('b').font()
	finds(t, "b", f, 'a', -1, api.Step{Skip: 128, Next: 'b', Op: 128, Rest: 1})
	finds(t, "b", f, 'a', 'b', api.Step{Skip: 128, Next: 'b', Op: 128, Rest: 1})
	finds(t, "b", f, -1, -1, api.Step{Skip: 128, Next: 'b', Op: 128, Rest: 2})
	finds(t, "b", f, 'b', -1, api.Step{})
	f = d.with('a', lig('z', 0, 'c')).bounded('z').font()
	finds(t, "z", f, 'a', -1, api.Step{Skip: 128, Next: 'z', Rest: 'c'})
	finds(t, "z", f, 'a', 'b', kern('b', 1))
	finds(t, "z", f, -1, -1, api.Step{})
	// A first step with another Skip names no boundary character.
	f = d.bounded('b').font()
	f.Steps[0].Skip = 254
	finds(t, "254", f, 'a', -1, api.Step{})
	finds(t, "254", f, -1, -1, api.Step{})
}

// A font with all characters, among them 0 and 255.
func TestP42All(t *testing.T) {
	d := plain(all()).bounded(255)
	for c := range 128 {
		d = d.with(2*c, kern(byte(255-c), 0))
	}
	f := d.font()
	for c := range 256 {
		for y := range 256 {
			want := api.Step{}
			if c%2 == 0 && y == 255-c/2 {
				want = api.Step{Skip: 128, Next: byte(y), Op: 128}
			}
			if y == 255 || c == 0 || c == y {
				finds(t, "all", f, c, y, want)
			}
		}
	}
	finds(t, "all", f, 0, -1, api.Step{Skip: 128, Next: 255, Op: 128})
	finds(t, "all", f, 2, -1, api.Step{})
}

func TestP42Random(t *testing.T) {
	r := &random{2}
	for i := range 3000 {
		f := r.font()
		if ligkern.Check(f) != api.OK {
			continue
		}
		for _, x := range []int{-1, 'a', 'b', 'c'} {
			for _, y := range []int{-1, 'a', 'b', 'c'} {
				l := pairRow(x, y)
				want, found := stepOf(f, l[0].code, l[1].code)
				if got, is, e := ligkern.Find(f, x, y); got != want || is != found || e != api.OK {
					t.Fatalf("random font %d: Find of %d and %d = %v, %v, %d; want %v, %v", i, x, y, got, is, e, want, found)
				}
			}
		}
	}
}
