package ligkern_test

import (
	"math"
	"slices"
	"strconv"
	"testing"

	"galley/api"
	"galley/ligkern"
)

func TestP41WrongFonts(t *testing.T) {
	fails(t, "nothing", api.Font{}, api.ErrFont)
	for i, edit := range []func(*api.Font){
		func(f *api.Font) { f.Design = 0 },
		func(f *api.Font) { f.Design = 1 << 31 },
		func(f *api.Font) { f.First = -1 },
		func(f *api.Font) { f.First = 256 },
		func(f *api.Font) { f.First = math.MinInt },
		func(f *api.Font) { f.Chars = make([]api.Metric, 1<<16) },
		func(f *api.Font) { f.Chars[0].Tag = -1 },
		func(f *api.Font) { f.Chars[0].Tag = 4 },
		func(f *api.Font) { set(f, 'a', 1, -1) },
		func(f *api.Font) { set(f, 'a', 1, 3) },
		func(f *api.Font) { set(f, 'a', 1, math.MaxInt) },
		func(f *api.Font) { set(f, 'a', 2, 'a') },
		func(f *api.Font) { f.Steps = nil },
		func(f *api.Font) { f.Steps[0].Skip = 127 },
		func(f *api.Font) { f.Steps[0].Next = 'b' },
		func(f *api.Font) { f.Steps[1].Rest = 'b' },
		func(f *api.Font) { f.Steps[2] = api.Step{Skip: 128, Op: 128} },
		func(f *api.Font) { f.Steps[2] = api.Step{Skip: 255, Op: 1} },
		func(f *api.Font) { f.Steps = make([]api.Step, 1<<16) },
		func(f *api.Font) { f.Steps = slices.Repeat([]api.Step{{Skip: 128, Next: 'a', Op: 128}}, 32511) },
		func(f *api.Font) { f.Kerns = nil },
		func(f *api.Font) { f.Kerns[0] = 1 << 24 },
		func(f *api.Font) { f.Pieces = [][4]byte{{}} },
		func(f *api.Font) { f.Params = make([]int, 256) },
	} {
		f := example()
		edit(&f)
		fails(t, "edit "+strconv.Itoa(i), f, api.ErrFont)
	}
}

// A font that is none is not looked at for programs that go on for ever.
func TestP41FontAhead(t *testing.T) {
	f := plain("ab").with('a', lig('a', 2, 'a')).font()
	f.Design = 0
	fails(t, "both", f, api.ErrFont)
}

// loops: fonts whose programs go on for ever; but for an edge or a step each would end.
func loops() map[string]draft {
	abc := plain("abcd")
	edged := abc.bounded('z')
	ring := plain(all())
	for c := range 256 {
		ring = ring.with(c, lig(7, 1, byte(c+1)))
	}
	return map[string]draft{
		"y becomes itself":                  abc.with('a', lig('a', 2, 'a')),
		"x becomes itself":                  abc.with('a', lig('b', 1, 'a')),
		"y becomes another, and back":       abc.with('a', lig('b', 2, 'c'), lig('c', 2, 'b')),
		"x becomes another, and back":       abc.with('a', lig('b', 1, 'c')).with('c', lig('b', 1, 'a')),
		"a row that grows":                  abc.with('a', lig('b', 3, 'b')),
		"grows by two in turn":              abc.with('a', lig('b', 3, 'c'), lig('c', 3, 'b')),
		"grows behind the place":            abc.with('a', lig('b', 3, 'a')),
		"grows behind, and is passed":       abc.with('a', lig('b', 7, 'a')),
		"what is put in goes on":            abc.with('a', lig('b', 7, 'c')).with('c', lig('b', 1, 'a')),
		"by the mark that comes out":        abc.with('a', lig('b', 3, 'c'), lig('c', 0, 'd')).with('d', lig('b', 1, 'a')),
		"by the mark that comes out, later": abc.with('a', lig('b', 3, 'c'), lig('c', 5, 'd')).with('c', lig('b', 7, 'a')),
		"an end that is not there":          edged.with('a', lig('z', 1, 'a')),
		"an end that is there":              abc.bounded('b').with('a', lig('b', 1, 'a')),
		"grows ahead of the end":            edged.with('a', lig('z', 7, 'b')).with('b', lig('z', 7, 'a')),
		"the end becomes a character":       edged.with('a', lig('z', 2, 'b'), lig('b', 2, 'b')),
		"behind Left":                       abc.with(-1, lig('a', 2, 'a')),
		"behind Left, by two":               abc.with(-1, lig('a', 2, 'b'), lig('b', 2, 'a')),
		"grows behind Left":                 abc.with(-1, lig('a', 3, 'a')),
		"Left is taken away":                abc.with(-1, lig('a', 1, 'b')).with('b', lig('a', 1, 'b')),
		"between both ends":                 edged.with(-1, lig('z', 3, 'a'), lig('a', 2, 'a')),
		"between both ends, Left away":      edged.with(-1, lig('z', 1, 'a')).with('a', lig('z', 1, 'a')),
		"behind one that is shadowed":       abc.with('a', lig('b', 1, 'a'), kern('b', 0)),
		"behind a step of another":          abc.with('a', kern('a', 0), lig('c', 0, 'c'), lig('b', 1, 'a')),
		"a ring of all characters":          ring,
	}
}

func TestP41Loops(t *testing.T) {
	for name, d := range loops() {
		fails(t, name, d.font(), api.ErrLoop)
	}
}

// Programs that are much like those, and end.
func TestP41Ends(t *testing.T) {
	abc := plain("abcd")
	edged := abc.bounded('z')
	chain := plain(all())
	for c := range 255 {
		chain = chain.with(c, lig(7, 1, byte(c+1)))
	}
	for name, d := range map[string]draft{
		"no characters":               plain(""),
		"no steps":                    abc,
		"x and y go":                  abc.with('a', lig('a', 0, 'a')),
		"all is passed":               abc.with('a', lig('a', 11, 'a'), lig('b', 11, 'a'), lig('c', 11, 'b')),
		"x goes, y is passed":         abc.with('a', lig('b', 5, 'a')),
		"y goes, z is passed":         abc.with('a', lig('b', 6, 'b')),
		"more than may be passed":     abc.with('a', lig('a', 127, 'a'), lig('b', 126, 'b'), lig('c', 125, 'a'), lig('d', 124, 'd')),
		"a kern ahead of it":          abc.with('a', kern('b', 0), lig('b', 1, 'a')),
		"a ligature ahead of it":      abc.with('a', lig('b', 0, 'c'), lig('b', 1, 'a')),
		"another mark behind":         abc.with('a', lig('b', 3, 'c')),
		"a kern in the way":           abc.with('a', lig('b', 1, 'c')).with('c', kern('b', 0)),
		"an end, all passed":          edged.with('a', lig('z', 11, 'a')),
		"an end that goes":            edged.with('a', lig('z', 2, 'b')),
		"an end that is a character":  abc.bounded('b').with('a', lig('b', 3, 'c')),
		"Left, all passed":            abc.with(-1, lig('a', 11, 'a')),
		"Left goes, the same for all": abc.with(-1, lig('a', 1, 'a'), lig('b', 1, 'a')),
		"a chain of all characters":   chain,
	} {
		if e := ligkern.Check(d.font()); e != api.OK {
			t.Errorf("%s: Check = %d; want OK", name, e)
		}
	}
}

// A program that goes on for ever counts only where a mark has it.
func TestP41Unled(t *testing.T) {
	f := plain("ab").with('a', lig('a', 2, 'a')).font()
	for tag := range 4 {
		g := clone(f)
		g.Pieces = [][4]byte{{0, 0, 0, 'a'}}
		set(&g, 'a', tag, 0)
		want := api.OK
		if tag == 1 {
			want = api.ErrLoop
		}
		if tag == 2 {
			set(&g, 'a', 2, 'b')
		}
		if e := ligkern.Check(g); e != want {
			t.Errorf("Tag %d: Check = %d; want %d", tag, e, want)
		}
	}
	f = plain("ab").with(-1, lig('a', 2, 'a')).font()
	for skip := 129; skip < 256; skip++ {
		f.Steps[1].Skip = byte(skip)
		want := api.OK
		if skip == 255 {
			want = api.ErrLoop
		}
		if e := ligkern.Check(f); e != want {
			t.Errorf("a last step with Skip %d: Check = %d; want %d", skip, e, want)
		}
	}
}

// allEnd: of each two marks, of the letters a to c and the ends.
func allEnd(f api.Font) bool {
	for _, x := range []int{-1, 'a', 'b', 'c'} {
		for _, y := range []int{-1, 'a', 'b', 'c'} {
			if _, ends := ended(f, pairRow(x, y), 500); !ends {
				return false
			}
		}
	}
	return true
}

func TestP41Random(t *testing.T) {
	r := &random{1}
	found := [2]int{}
	for i := range 4000 {
		f := r.font()
		want := api.OK
		if !allEnd(f) {
			want = api.ErrLoop
		}
		if e := ligkern.Check(f); e != want {
			t.Fatalf("random font %d: Check = %d; want %d; %v", i, e, want, f)
		}
		if want == api.OK {
			found[0]++
		} else {
			found[1]++
		}
	}
	if found[0] < 500 || found[1] < 500 {
		t.Errorf("of each kind there must be some: %v", found)
	}
}

func TestP41Boundary(t *testing.T) {
	for c := range 256 {
		f := plain("ab").bounded(c).font()
		if n, e := ligkern.Boundary(f); n != c || e != api.OK {
			t.Errorf("Boundary = %d, %d; want %d", n, e, c)
		}
	}
	for name, f := range map[string]api.Font{
		"no characters": plain("").font(),
		"no steps":      plain("ab").font(),
		"the example":   example(),
		"Left alone":    plain("ab").with(-1, kern('a', 0)).font(),
	} {
		if n, e := ligkern.Boundary(f); n != -1 || e != api.OK {
			t.Errorf("%s: Boundary = %d, %d; want -1", name, n, e)
		}
	}
	f := plain("ab").font()
	for skip := 129; skip < 255; skip++ {
		f.Steps = []api.Step{{Skip: byte(skip), Next: 'a'}, {Skip: 255, Next: 'b'}}
		if n, e := ligkern.Boundary(f); n != -1 || e != api.OK {
			t.Errorf("a first step with Skip %d: Boundary = %d, %d; want -1", skip, n, e)
		}
	}
}

// The longest programs that a font may have, and pairs that lead to one another through most of them.
func TestP41Long(t *testing.T) {
	f := withChars(all())
	for i := range 32510 {
		f.Steps = append(f.Steps, lig(byte(i), 0, 1))
	}
	f.Steps[32509].Skip = 128
	for c := range 256 {
		set(&f, byte(c), 1, c)
	}
	if e := ligkern.Check(f); e != api.OK {
		t.Errorf("long programs: Check = %d; want OK", e)
	}
	f = snake(126)
	if e := ligkern.Check(f); e != api.OK {
		t.Fatalf("a snake: Check = %d; want OK", e)
	}
	pairs(t, "a snake", f, 0, 0, "~2")
	f.Steps[len(f.Steps)-1] = api.Step{Skip: 128, Next: 255, Op: 2}
	fails(t, "a snake that bites its tail", f, api.ErrLoop)
}

// snake: x goes from 0 up to wide - 1 where y is even, and down where it is odd; at each end y grows by 1, to 255.
func snake(wide int) api.Font {
	f := withChars(all())
	for x := range wide {
		f.Steps = append(f.Steps, api.Step{Skip: 129, Op: byte((wide + 256*x) >> 8), Rest: byte(wide + 256*x)})
		set(&f, byte(x), 1, x)
	}
	for x := range wide {
		for y := range 256 {
			end, next := wide-1, x+1
			if y%2 == 1 {
				end, next = 0, x-1
			}
			s := lig(byte(y), 1, byte(next))
			if x == end {
				s = lig(byte(y), 2, byte(y+1))
			}
			f.Steps = append(f.Steps, s)
		}
		f.Steps[len(f.Steps)-1].Skip = 128
	}
	f.Steps[wide+255] = api.Step{Skip: 128, Next: 255, Op: 0, Rest: '~'}
	return f
}
