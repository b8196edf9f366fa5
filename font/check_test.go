package font_test

import (
	"reflect"
	"slices"
	"testing"

	"galley/api"
	"galley/font"
)

func TestP303Right(t *testing.T) {
	for _, x := range rightFonts() {
		if e := font.Check(x.f); e != api.OK {
			t.Errorf("%s: Check = %d; want OK", x.name, e)
		}
	}
	r := random{1}
	for i := range 300 {
		if e := font.Check(r.font()); e != api.OK {
			t.Errorf("random font %d: Check = %d; want OK", i, e)
		}
	}
}

func TestP303Wrong(t *testing.T) {
	for _, x := range wrongFonts() {
		if e := font.Check(x.f); e != api.ErrFont {
			t.Errorf("%s: Check = %d; want ErrFont", x.name, e)
		}
	}
	if e := font.Check(api.Font{}); e != api.ErrFont {
		t.Errorf("of nothing: Check = %d; want ErrFont", e)
	}
}

// Of what no sentence bounds each byte may be: the Next of what only leads elsewhere, and all of a first step of 255.
func TestP303Free(t *testing.T) {
	for n := range 256 {
		f := rich()
		f.Steps[4].Next, f.Steps[6].Next = byte(n), byte(n)
		if e := font.Check(f); e != api.OK {
			t.Errorf("Next %d of a step that leads elsewhere: Check = %d; want OK", n, e)
		}
		f = rich()
		f.Steps[0] = api.Step{Skip: 255, Next: byte(n), Op: byte(n), Rest: byte(255 - n)}
		f.Steps[2].Next = byte(n)
		if e := font.Check(f); e != api.OK {
			t.Errorf("boundary %d: Check = %d; want OK", n, e)
		}
	}
}

func TestP303Skips(t *testing.T) {
	for n := range 256 {
		f := many(1)
		f.Kerns = []int{0}
		f.Steps = append([]api.Step{{Skip: byte(n), Op: 128}}, idle(99)...)
		want := api.OK
		if n > 98 && n < 128 || n > 128 && n < 255 {
			want = api.ErrFont
		}
		if e := font.Check(f); e != want {
			t.Errorf("Skip %d of 100 steps: Check = %d; want %d", n, e, want)
		}
	}
}

// Every call that a font goes into answers Check's error ahead of all else, and nothing beside it.
func TestP301Wrong(t *testing.T) {
	for _, x := range append(wrongFonts(), named{"nothing", api.Font{}}) {
		if b, e := font.Write(x.f); b != nil || e != api.ErrFont {
			t.Errorf("%s: Write = %d bytes, %d; want ErrFont alone", x.name, len(b), e)
		}
		for _, at := range []int{655360, 0, -1, 1 << 27} {
			if got := sizesOf(x.f, 12, at); got != (sizes{e: api.ErrFont}) {
				t.Errorf("%s: At = %v; want ErrFont alone", x.name, got)
			}
		}
		for _, c := range []byte{0, 10, 255} {
			if l, e := font.Next(x.f, c); len(l) != 0 || e != api.ErrFont {
				t.Errorf("%s: Next = %v, %d; want ErrFont alone", x.name, l, e)
			}
		}
	}
}

// What is handed in is not changed, nor the room behind it; the same is answered again.
func TestP301Pure(t *testing.T) {
	for _, x := range append(rightFonts(), wrongFonts()...) {
		before := clone(x.f)
		f := roomy(x.f)
		b, e := font.Write(f)
		for c := range 256 {
			got, found := font.Metric(f, byte(c))
			if again, still := font.Metric(f, byte(c)); again != got || still != found {
				t.Errorf("%s: Metric %d = %v, then %v", x.name, c, got, again)
			}
		}
		for _, c := range []byte{0, 10, 12, 97} {
			l, e := font.Next(f, c)
			if again, e2 := font.Next(f, c); !slices.Equal(l, again) || e != e2 {
				t.Errorf("%s: Next %d = %v, then %v", x.name, c, l, again)
			}
			if got, again := sizesOf(f, c, 5<<16), sizesOf(f, c, 5<<16); got != again {
				t.Errorf("%s: At %d = %v, then %v", x.name, c, got, again)
			}
		}
		if again, e2 := font.Write(f); !slices.Equal(again, b) || e != e2 {
			t.Errorf("%s: Write answers %d, then %d", x.name, e, e2)
		}
		if !same(f, before) || !reflect.DeepEqual(behind(f), behind(roomy(before))) {
			t.Errorf("%s: the font was changed", x.name)
		}
	}
}

// roomy: with room behind each list, which is marked.
func roomy(f api.Font) api.Font {
	f.Chars = withRoom(f.Chars, api.Metric{W: 99})
	f.Steps = withRoom(f.Steps, api.Step{Skip: 99})
	f.Kerns = withRoom(f.Kerns, 99)
	f.Pieces = withRoom(f.Pieces, [4]byte{99})
	f.Params = withRoom(f.Params, 99)
	return f
}

func withRoom[T any](l []T, x T) []T { return append(slices.Clone(l), x, x)[:len(l)] }

func behind(f api.Font) []any {
	return []any{marks(f.Chars), marks(f.Steps), marks(f.Kerns), marks(f.Pieces), marks(f.Params)}
}

func marks[T any](l []T) []T { return l[len(l) : len(l)+2] }

// Empty lists mean the same as nil.
func TestP301Empty(t *testing.T) {
	f := bare()
	f.Chars, f.Steps, f.Kerns, f.Pieces, f.Params = []api.Metric{}, []api.Step{}, []int{}, [][4]byte{}, []int{}
	if e := font.Check(f); e != api.OK {
		t.Errorf("Check = %d; want OK", e)
	}
	if b := written(f); !slices.Equal(b, written(bare())) {
		t.Errorf("Write = %v", b)
	}
}

func TestP301EmptyBytes(t *testing.T) {
	for _, b := range [][]byte{nil, {}} {
		if f, e := font.Read(b); !none(f) || e != api.ErrFont {
			t.Errorf("Read of nothing = %v, %d; want ErrFont alone", f, e)
		}
	}
}

// What is answered shares nothing with what was handed in.
func TestP301Share(t *testing.T) {
	b := written(rich())
	f, e := font.Read(b)
	clear(b)
	if !same(f, rich()) || e != api.OK {
		t.Error("Read shares its bytes")
	}
	g := rich()
	b = written(g)
	before := slices.Clone(b)
	clear(g.Chars)
	clear(g.Steps)
	clear(g.Kerns)
	clear(g.Pieces)
	clear(g.Params)
	if !slices.Equal(b, before) {
		t.Error("Write shares its font")
	}
	one, _ := font.Next(rich(), 12)
	clear(one)
	if two, _ := font.Next(rich(), 12); !slices.Equal(two, []byte{12, 13, 20}) {
		t.Error("two answers of Next share")
	}
}

// Lists of one answer have room of their own: what is put behind one is in no other.
func TestP301Apart(t *testing.T) {
	f, _ := font.Read(written(rich()))
	_ = append(f.Chars, api.Metric{W: 1})
	_ = append(f.Steps, api.Step{Skip: 1})
	_ = append(f.Kerns, 1)
	_ = append(f.Pieces, [4]byte{1})
	_ = append(f.Params, 1)
	clear(f.Kerns)
	want := rich()
	clear(want.Kerns)
	if !same(f, want) {
		t.Errorf("Read's lists share: %v", f)
	}
}

// Long fonts and strange ones end without a panic.
func TestP301Ends(t *testing.T) {
	long := api.Font{Design: 1 << 20, Chars: make([]api.Metric, 1<<20), Steps: make([]api.Step, 1<<20), Kerns: make([]int, 1<<20), Pieces: make([][4]byte, 1<<20), Params: make([]int, 1<<20)}
	for _, first := range []int{0, -1, 255, 256, 1 << 40, -1 << 40, -1 << 63, 1<<63 - 1} {
		long.First = first
		if e := font.Check(long); e != api.ErrFont {
			t.Errorf("First %d: Check = %d; want ErrFont", first, e)
		}
		for c := range 256 {
			want := first > -1000 && first <= c
			if _, found := font.Metric(long, byte(c)); found != want {
				t.Errorf("First %d: Metric %d: %v; want %v", first, c, found, want)
			}
		}
	}
}
