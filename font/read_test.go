package font_test

import (
	"math"
	"slices"
	"strconv"
	"testing"

	"galley/api"
	"galley/font"
)

func readsAs(t *testing.T, name string, b []byte, want api.Font) {
	t.Helper()
	before := slices.Clone(b)
	if f, e := font.Read(b); !same(f, want) || e != api.OK {
		t.Errorf("%s: Read = %+v, %d; want %+v", name, f, e, want)
	}
	if !slices.Equal(b, before) {
		t.Errorf("%s: Read changed its bytes", name)
	}
}

func readsNot(t *testing.T, name string, b []byte, want api.Errno) {
	t.Helper()
	if f, e := font.Read(b); !none(f) || e != want {
		t.Errorf("%s: Read = %+v, %d; want %d alone", name, f, e, want)
	}
}

// readEdit: tables, changed in one thing.
type readEdit struct {
	name string
	edit func(*tables)
}

// readsEdited: they are read as a font that is changed likewise, or, where no change of it is told, not at all.
func readsEdited(t *testing.T, l []readEdit, of func() tables, want func(*api.Font)) {
	t.Helper()
	for _, x := range l {
		b := of()
		x.edit(&b)
		if want == nil {
			readsNot(t, x.name, b.bytes(), api.ErrFont)
			continue
		}
		f := rich()
		want(&f)
		readsAs(t, x.name, b.bytes(), f)
	}
}

func unchanged(*api.Font) {}

func TestP302Right(t *testing.T) {
	readsAs(t, "example", exampleTables().bytes(), example())
	readsAs(t, "rich", richTables().bytes(), rich())
	readsAs(t, "bare", bareTables().bytes(), bare())
}

// The chapter's example, byte by byte.
func TestP302Bytes(t *testing.T) {
	b := []byte{
		0, 17, 0, 2, 0, 97, 0, 97, 0, 2, 0, 2, 0, 1, 0, 1, 0, 0, 0, 0, 0, 0, 0, 2,
		0, 0, 0, 7, 0, 160, 0, 0, 1, 16, 0, 0, 0, 0, 0, 0, 0, 8, 0, 0, 0, 0, 0, 0, 0, 4, 0, 0,
		0, 0, 0, 0, 0, 0, 0, 0, 0, 0, 0, 0, 0, 4, 0, 0,
	}
	readsAs(t, "example", b, example())
	readsNot(t, "example with one more", append(b, 0), api.ErrFont)
}

func TestP302Size(t *testing.T) {
	good := richTables().bytes()
	for _, n := range []int{api.MaxBytes + 1, api.MaxBytes + 4, 2 * api.MaxBytes} {
		readsNot(t, strconv.Itoa(n)+" bytes of 0", make([]byte, n), api.ErrSize)
		readsNot(t, strconv.Itoa(n)+" bytes", append(good, make([]byte, n-len(good))...), api.ErrSize)
	}
	readsNot(t, "as many as there may be", make([]byte, api.MaxBytes), api.ErrFont)
	readsNot(t, "as many, and good ones", append(good, make([]byte, api.MaxBytes-len(good))...), api.ErrFont)
}

// Cut short anywhere, with more behind, also where lf says so many.
func TestP302Cut(t *testing.T) {
	for _, good := range [][]byte{exampleTables().bytes(), richTables().bytes(), bareTables().bytes()} {
		for n := range good {
			readsNot(t, "cut behind "+strconv.Itoa(n), good[:n], api.ErrFont)
			b := slices.Clone(good[:n])
			if n > 1 {
				b[0], b[1] = byte(n/4>>8), byte(n/4)
			}
			readsNot(t, "cut behind "+strconv.Itoa(n)+" with lf", b, api.ErrFont)
		}
		for n := 1; n < 10; n++ {
			b := append(slices.Clone(good), make([]byte, n)...)
			readsNot(t, strconv.Itoa(n)+" more", b, api.ErrFont)
			b[0], b[1] = byte(len(b)/4>>8), byte(len(b)/4)
			readsNot(t, strconv.Itoa(n)+" more with lf", b, api.ErrFont)
		}
	}
}

// Each half, one more or less than it must be.
func TestP302Halves(t *testing.T) {
	good := richTables().bytes()
	for at := range 12 {
		for _, by := range []int{1, -1, 2, 1 << 15, 1 << 8} {
			b := slices.Clone(good)
			n := int(b[2*at])<<8 + int(b[2*at+1]) + by
			b[2*at], b[2*at+1] = byte(n>>8), byte(n)
			readsNot(t, "half "+strconv.Itoa(at)+" by "+strconv.Itoa(by), b, api.ErrFont)
		}
	}
}

// A half above 32767 is none below 0 either, where all others come to what it would make up for.
func TestP302HighHalves(t *testing.T) {
	for at := 1; at < 12; at++ {
		for other := 1; other < 12; other++ {
			b := bareTables()
			b.params = make([]int, 5)
			c := b.bytes()
			if at == other {
				continue
			}
			add(c, at, -10)
			add(c, other, 10)
			readsNot(t, "halves "+strconv.Itoa(at)+" and "+strconv.Itoa(other), c, api.ErrFont)
		}
	}
	b := bareTables()
	b.bc, b.ec = 0, 0xffff
	readsNot(t, "ec of -1", b.bytes(), api.ErrFont)
}

func add(b []byte, half, by int) {
	n := int(b[2*half])<<8 + int(b[2*half+1]) + by
	b[2*half], b[2*half+1] = byte(n>>8), byte(n)
}

func TestP302Words(t *testing.T) {
	b := bareTables()
	b.kerns = make([]int, 32767-12)
	want := bare()
	want.Kerns = make([]int, 32767-12)
	readsAs(t, "32767 words", b.bytes(), want)
	b.kerns = make([]int, 32767-11)
	readsNot(t, "32768 words", b.bytes(), api.ErrFont)
	b = bareTables()
	b.header = append(b.header, make([]uint32, 32767-12)...)
	readsAs(t, "32767 words with a long header", b.bytes(), bare())
	b.header = append(b.header, 0)
	readsNot(t, "32768 words with a long header", b.bytes(), api.ErrFont)
}

func TestP302Header(t *testing.T) {
	readsEdited(t, []readEdit{
		{"one word more", func(b *tables) { b.header = append(b.header, 1<<32-1) }},
		{"sixteen more", func(b *tables) { b.header = append(b.header, make([]uint32, 16)...) }},
	}, richTables, unchanged)
	readsEdited(t, []readEdit{
		{"Check 0", func(b *tables) { b.header[0] = 0 }},
	}, richTables, func(f *api.Font) { f.Check = 0 })
	readsEdited(t, []readEdit{
		{"the least Design", func(b *tables) { b.header[1] = 1 << 20 }},
	}, richTables, func(f *api.Font) { f.Design = 1 << 20 })
	readsEdited(t, []readEdit{
		{"no header", func(b *tables) { b.header = nil }},
		{"one word", func(b *tables) { b.header = b.header[:1] }},
		{"one word, which might be Design", func(b *tables) { b.header = b.header[1:] }},
		{"a word of Design, and none of Check", func(b *tables) { b.header, b.params = b.header[:1], append(b.params, 0) }},
		{"Design 0", func(b *tables) { b.header[1] = 0 }},
		{"Design below its least", func(b *tables) { b.header[1] = 1<<20 - 1 }},
		{"Design above its greatest", func(b *tables) { b.header[1] = 1 << 31 }},
		{"Design far above", func(b *tables) { b.header[1] = 1<<32 - 1 }},
	}, richTables, nil)
}

// Of no characters bc is one more than ec, whichever they are.
func TestP302NoChars(t *testing.T) {
	for _, bc := range []int{1, 2, 97, 255, 256} {
		b := bareTables()
		b.bc, b.ec = bc, bc-1
		readsAs(t, "bc "+strconv.Itoa(bc), b.bytes(), bare())
	}
	for _, x := range [][2]int{{2, 0}, {97, 95}, {256, 0}, {256, 254}, {257, 255}, {300, 0}, {257, 256}, {300, 299}, {32767, 32766}, {0, 256}, {255, 256}, {256, 256}, {1, 256}, {97, 300}, {0, 31000}, {300, 300}} {
		b := bareTables()
		b.bc, b.ec, b.chars = x[0], x[1], make([][4]byte, max(x[1]-x[0]+1, 0))
		c := b.bytes()
		readsNot(t, "bc and ec "+numbersText(x[:]), c, api.ErrFont)
		// So many params more as there are characters below none, so that lf is what all come to.
		add(c, 11, max(x[0]-x[1]-1, 0))
		readsNot(t, "as many words, bc and ec "+numbersText(x[:]), c, api.ErrFont)
	}
}

func numbersText(l []int) (s string) {
	for _, n := range l {
		s += strconv.Itoa(n) + " "
	}
	return s
}

// Characters that are not there are left away at both ends; what else is told of them counts for nothing.
func TestP302Gone(t *testing.T) {
	for _, n := range []int{1, 2, 100, 256} {
		b := bareTables()
		b.bc, b.ec, b.chars = 0, n-1, make([][4]byte, n)
		readsAs(t, "none of "+strconv.Itoa(n), b.bytes(), bare())
		b.bc, b.ec = 256-n, 255
		readsAs(t, "none of the last "+strconv.Itoa(n), b.bytes(), bare())
	}
	readsEdited(t, []readEdit{
		{"some ahead", func(b *tables) { b.bc, b.chars = 7, append(make([][4]byte, 3), b.chars...) }},
		{"all ahead", func(b *tables) { b.bc, b.chars = 0, append(make([][4]byte, 10), b.chars...) }},
		{"some behind", func(b *tables) { b.ec, b.chars = 23, append(b.chars, make([][4]byte, 3)...) }},
		{"all behind", func(b *tables) { b.ec, b.chars = 255, append(b.chars, make([][4]byte, 235)...) }},
		{"on both sides", func(b *tables) {
			b.bc, b.ec, b.chars = 0, 255, slices.Concat(make([][4]byte, 10), b.chars, make([][4]byte, 235))
		}},
		{"with places past the ends", func(b *tables) { b.chars[1] = [4]byte{0, 255, 252, 0} }},
		{"with a program past the end", func(b *tables) { b.chars[1] = [4]byte{0, 0, 1, 255} }},
		{"with a ring", func(b *tables) { b.chars[1] = [4]byte{0, 0, 2, 11} }},
		{"with pieces past the end", func(b *tables) { b.chars[7] = [4]byte{0, 255, 255, 255} }},
		{"with places at the ends", func(b *tables) {
			b.bc, b.ec, b.chars = 9, 21, slices.Concat([][4]byte{{0, 255, 255, 255}}, b.chars, [][4]byte{{0, 255, 255, 255}})
		}},
	}, richTables, unchanged)
}

func TestP302Rest(t *testing.T) {
	for n := range 256 {
		b := richTables()
		b.chars[5][3], b.chars[10][3] = byte(n), byte(255-n)
		readsAs(t, "Tag 0 with rest "+strconv.Itoa(n), b.bytes(), rich())
	}
}

func TestP302Tables(t *testing.T) {
	readsEdited(t, []readEdit{
		{"no widths", func(b *tables) { b.widths = nil }},
		{"no heights", func(b *tables) { b.heights = nil }},
		{"no depths", func(b *tables) { b.depths = nil }},
		{"no italics", func(b *tables) { b.italics = nil }},
		{"a first width of 1", func(b *tables) { b.widths[0] = 1 }},
		{"a first height of -1", func(b *tables) { b.heights[0] = -1 }},
		{"a first depth of 2^16", func(b *tables) { b.depths[0] = 1 << 16 }},
		{"a first italic of 2^24", func(b *tables) { b.italics[0] = 1 << 24 }},
	}, bareTables, nil)
	readsEdited(t, []readEdit{
		{"a first width of 1", func(b *tables) { b.widths[0] = 1 }},
		{"a first height of 1", func(b *tables) { b.heights[0] = 1 }},
		{"a first depth of 1", func(b *tables) { b.depths[0] = 1 }},
		{"a first italic of 1", func(b *tables) { b.italics[0] = 1 }},
		{"a width's place past the end", func(b *tables) { b.chars[5][0] = 7 }},
		{"a width's place far past the end", func(b *tables) { b.chars[5][0] = 255 }},
		{"a width too few", func(b *tables) { b.widths = b.widths[:6] }},
		{"a height's place past the end", func(b *tables) { b.chars[5][1] = 0x50 }},
		{"a height's place far past the end", func(b *tables) { b.chars[5][1] = 0xf0 }},
		{"a depth's place past the end", func(b *tables) { b.chars[5][1] = 0x04 }},
		{"a depth's place far past the end", func(b *tables) { b.chars[5][1] = 0x0f }},
		{"an italic's place past the end", func(b *tables) { b.chars[5][2] = 5 << 2 }},
		{"an italic's place far past the end", func(b *tables) { b.chars[5][2] = 63 << 2 }},
	}, richTables, nil)
}

// Tables may have more than is asked of them, in any order, one value in many places.
func TestP302Loose(t *testing.T) {
	readsEdited(t, []readEdit{
		{"more widths", func(b *tables) { b.widths = append(b.widths, make([]int, 400)...) }},
		{"more of the others", func(b *tables) {
			b.heights, b.depths, b.italics = append(b.heights, 1, 2, 3), append(b.depths, make([]int, 40)...), append(b.italics, make([]int, 99)...)
		}},
		{"a value twice", func(b *tables) { b.widths, b.chars[0][0] = append(b.widths, 300), 7 }},
		{"in another order", func(b *tables) {
			b.heights[1], b.heights[4] = b.heights[4], b.heights[1]
			b.chars[6][1], b.chars[8][1] = 0x43, 0x11
		}},
		{"a height of 0 in another place", func(b *tables) { b.heights, b.chars[5][1] = append(b.heights, 0), 0x50 }},
		// Only what a character has is a number of the font.
		{"no fix, which no character has", func(b *tables) { b.widths = append(b.widths, 1<<24, math.MinInt32) }},
	}, richTables, unchanged)
}

// The farthest places that bytes can tell.
func TestP302Places(t *testing.T) {
	b := bareTables()
	b.bc, b.ec, b.chars = 255, 255, [][4]byte{{255, 0xff, 63 << 2, 0}}
	b.widths, b.heights, b.depths, b.italics = make([]int, 256), make([]int, 16), make([]int, 16), make([]int, 64)
	b.widths[255], b.heights[15], b.depths[15], b.italics[63] = -1, -2, -3, -4
	want := bare()
	want.First, want.Chars = 255, []api.Metric{{W: -1, H: -2, D: -3, Italic: -4}}
	readsAs(t, "the farthest", b.bytes(), want)
}

// What the bytes say is no font.
func TestP302NoFont(t *testing.T) {
	readsEdited(t, []readEdit{
		{"a width above a fix", func(b *tables) { b.widths[3] = mostFix + 1 }},
		{"a width below a fix", func(b *tables) { b.widths[1] = leastFix - 1 }},
		{"a height above a fix", func(b *tables) { b.heights[4] = mostFix + 1 }},
		{"a height below a fix", func(b *tables) { b.heights[1] = leastFix - 1 }},
		{"a depth above a fix", func(b *tables) { b.depths[3] = math.MaxInt32 }},
		{"a depth below a fix", func(b *tables) { b.depths[1] = math.MinInt32 }},
		{"an italic above a fix", func(b *tables) { b.italics[4] = mostFix + 1 }},
		{"an italic below a fix", func(b *tables) { b.italics[1] = leastFix - 1 }},
		{"a kern above a fix", func(b *tables) { b.kerns[1] = mostFix + 1 }},
		{"a kern below a fix", func(b *tables) { b.kerns[1] = leastFix - 1 }},
		{"a param above a fix", func(b *tables) { b.params[1] = mostFix + 1 }},
		{"a param below a fix", func(b *tables) { b.params[3] = leastFix - 1 }},
		{"a program past the end", func(b *tables) { b.chars[0][3] = 7 }},
		{"a greater one that is not there", func(b *tables) { b.chars[3][3] = 11 }},
		{"a greater one ahead of all", func(b *tables) { b.chars[3][3] = 9 }},
		{"a ring", func(b *tables) { b.chars[3][3] = 12 }},
		{"its own greater one", func(b *tables) { b.chars[3][3] = 13 }},
		{"pieces past the end", func(b *tables) { b.chars[4][3] = 2 }},
		{"a step to where none is", func(b *tables) { b.steps[4] = [4]byte{129, 77, 0, 7} }},
		{"a step of a character that is not there", func(b *tables) { b.steps[5][1] = 11 }},
		{"a ligature that is not there", func(b *tables) { b.steps[5][3] = 11 }},
		{"a kern past the end", func(b *tables) { b.steps[1][3] = 3 }},
		{"a skip past the end", func(b *tables) { b.steps[5][0] = 1 }},
		{"a piece that is not there", func(b *tables) { b.pieces[0][1] = 11 }},
		{"a last piece of 0", func(b *tables) { b.pieces[0][3] = 0 }},
		{"a step too many", func(b *tables) { b.steps = append(b.steps, slices.Repeat([][4]byte{{129}}, 32510-6)...) }},
		{"pieces too many", func(b *tables) { b.pieces = slices.Repeat(b.pieces[:1], 257) }},
		{"a param too many", func(b *tables) { b.params = make([]int, 256) }},
	}, richTables, nil)
}

func TestP302Most(t *testing.T) {
	readsEdited(t, []readEdit{
		{"as many pieces", func(b *tables) { b.pieces = append(b.pieces, slices.Repeat(b.pieces[:1], 254)...) }},
	}, richTables, func(f *api.Font) { f.Pieces = append(f.Pieces, slices.Repeat(f.Pieces[:1], 254)...) })
	readsEdited(t, []readEdit{
		{"as many params", func(b *tables) { b.params = append(b.params, make([]int, 251)...) }},
	}, richTables, func(f *api.Font) { f.Params = append(f.Params, make([]int, 251)...) })
	readsEdited(t, []readEdit{
		{"no params", func(b *tables) { b.params = nil }},
	}, richTables, func(f *api.Font) { f.Params = nil })
	b := bareTables()
	b.steps = slices.Repeat([][4]byte{{129}}, 32510)
	want := bare()
	want.Steps = idle(32510)
	readsAs(t, "as many steps", b.bytes(), want)
	b.steps = append(b.steps, [4]byte{129})
	readsNot(t, "a step more", b.bytes(), api.ErrFont)
}

// Each number of 32 bits, where each may be.
func TestP302Numbers(t *testing.T) {
	for _, n := range []int{0, 1, -1, 255, 256, -256, 65535, 65536, -65536, mostFix, leastFix} {
		b := exampleTables()
		b.widths[1], b.heights[1], b.depths, b.italics = n, n, append(b.depths, n), append(b.italics, n)
		b.chars[0], b.kerns, b.params = [4]byte{1, 0x11, 1 << 2, 0}, []int{n}, []int{n, n}
		want := example()
		want.Chars[0], want.Kerns, want.Params = api.Metric{W: n, H: n, D: n, Italic: n}, []int{n}, []int{n, n}
		readsAs(t, strconv.Itoa(n), b.bytes(), want)
	}
	for _, n := range []int{math.MinInt32, math.MaxInt32, leastFix - 1, mostFix + 1} {
		b := exampleTables()
		b.params[0] = n
		want := example()
		want.Params[0] = n
		readsAs(t, "the first param "+strconv.Itoa(n), b.bytes(), want)
	}
}
