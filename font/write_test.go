package font_test

import (
	"encoding/binary"
	"math"
	"slices"
	"strconv"
	"testing"

	"galley/api"
	"galley/font"
)

func writesAs(t *testing.T, name string, f api.Font, want []byte) {
	t.Helper()
	if b, e := font.Write(f); !slices.Equal(b, want) || e != api.OK {
		t.Errorf("%s: Write = %v, %d; want %v", name, b, e, want)
	}
}

func writesNot(t *testing.T, name string, f api.Font, want api.Errno) {
	t.Helper()
	if b, e := font.Write(f); len(b) != 0 || e != want {
		t.Errorf("%s: Write = %d bytes, %d; want %d alone", name, len(b), e, want)
	}
}

func TestP304Bytes(t *testing.T) {
	writesAs(t, "example", example(), []byte{
		0, 17, 0, 2, 0, 97, 0, 97, 0, 2, 0, 2, 0, 1, 0, 1, 0, 0, 0, 0, 0, 0, 0, 2,
		0, 0, 0, 7, 0, 160, 0, 0, 1, 16, 0, 0, 0, 0, 0, 0, 0, 8, 0, 0, 0, 0, 0, 0, 0, 4, 0, 0,
		0, 0, 0, 0, 0, 0, 0, 0, 0, 0, 0, 0, 0, 4, 0, 0,
	})
	writesAs(t, "rich", rich(), richTables().bytes())
	writesAs(t, "bare", bare(), bareTables().bytes())
	writesAs(t, "bare, byte by byte", bare(), []byte{
		0, 12, 0, 2, 0, 1, 0, 0, 0, 1, 0, 1, 0, 1, 0, 1, 0, 0, 0, 0, 0, 0, 0, 0,
		0, 0, 0, 0, 0, 16, 0, 0, 0, 0, 0, 0, 0, 0, 0, 0, 0, 0, 0, 0, 0, 0, 0, 0,
	})
}

// A width of 0 that a character has stands in its table once more; a height of 0 doesn't.
func TestP304Zero(t *testing.T) {
	f := many(2)
	f.Chars[1] = api.Metric{W: -3}
	b := bareTables()
	b.bc, b.ec, b.chars, b.widths = 0, 1, [][4]byte{{2, 0, 0, 0}, {1, 0, 0, 0}}, []int{0, -3, 0}
	writesAs(t, "0 behind -3", f, b.bytes())
	f.Chars[1].W = 3
	b.chars, b.widths = [][4]byte{{1, 0, 0, 0}, {2, 0, 0, 0}}, []int{0, 0, 3}
	writesAs(t, "0 ahead of 3", f, b.bytes())
	f.Chars[0] = api.Metric{W: 3, H: -1, D: -1, Italic: -1}
	b.chars, b.widths = [][4]byte{{1, 0x11, 1 << 2, 0}, {1, 0, 0, 0}}, []int{0, 3}
	b.heights, b.depths, b.italics = []int{0, -1}, []int{0, -1}, []int{0, -1}
	writesAs(t, "no width of 0", f, b.bytes())
}

func TestP304Gone(t *testing.T) {
	f := many(4)
	f.First, f.Chars[1], f.Chars[2] = 252, gone, gone
	b := bareTables()
	b.bc, b.ec, b.chars, b.widths = 252, 255, [][4]byte{{1}, {}, {}, {1}}, []int{0, 0}
	writesAs(t, "two gone", f, b.bytes())
	f = many(3)
	f.Chars[0].W, f.Chars[1], f.Chars[2].W = 5, gone, 6
	b.bc, b.ec, b.chars, b.widths = 0, 2, [][4]byte{{1}, {}, {2}}, []int{0, 5, 6}
	writesAs(t, "the width of what is gone is no width", f, b.bytes())
}

// spread: a font of n characters, each with a value of its own, from least on.
func spread(n, least int, set func(*api.Metric, int)) api.Font {
	f := many(n)
	for i := range f.Chars {
		set(&f.Chars[i], least+i)
	}
	return f
}

func setW(m *api.Metric, n int)      { m.W = n }
func setH(m *api.Metric, n int)      { m.H = n }
func setD(m *api.Metric, n int)      { m.D = n }
func setItalic(m *api.Metric, n int) { m.Italic = n }

// As many values as the places of a character can tell, and one more; 0 among them, below and above them.
func TestP304Values(t *testing.T) {
	for _, x := range []struct {
		name  string
		set   func(*api.Metric, int)
		n     int
		least int
		want  api.Errno
	}{
		{"widths", setW, 255, 1, api.OK}, {"widths", setW, 256, 1, api.ErrSize},
		{"widths with 0", setW, 255, 0, api.OK}, {"widths with 0", setW, 256, 0, api.ErrSize}, {"widths with 0 amid", setW, 255, -99, api.OK}, {"widths with 0 amid", setW, 256, -99, api.ErrSize},
		{"heights", setH, 15, 1, api.OK}, {"heights", setH, 16, 1, api.ErrSize}, {"heights with 0", setH, 16, 0, api.OK}, {"heights with 0", setH, 17, 0, api.ErrSize}, {"heights with 0 amid", setH, 16, -7, api.OK}, {"heights with 0 amid", setH, 17, -7, api.ErrSize},
		{"depths", setD, 15, 1, api.OK}, {"depths", setD, 16, 1, api.ErrSize}, {"depths with 0", setD, 16, 0, api.OK}, {"depths with 0", setD, 17, -16, api.ErrSize},
		{"italics", setItalic, 63, 1, api.OK}, {"italics", setItalic, 64, 1, api.ErrSize}, {"italics with 0", setItalic, 64, -63, api.OK}, {"italics with 0", setItalic, 65, -63, api.ErrSize},
		{"heights of all", setH, 256, -100, api.ErrSize}, {"depths of all", setD, 256, -100, api.ErrSize}, {"italics of all", setItalic, 256, -100, api.ErrSize},
	} {
		f := spread(x.n, x.least, x.set)
		name := strconv.Itoa(x.n) + " " + x.name
		if x.want != api.OK {
			writesNot(t, name, f, x.want)
			continue
		}
		readsAs(t, name, written(f), f)
	}
}

// One value of many characters counts once; those of one kind are none of another.
func TestP304Once(t *testing.T) {
	f := many(256)
	for i := range f.Chars {
		f.Chars[i] = api.Metric{W: i % 255, H: i % 16, D: -(i % 16), Italic: i % 64}
	}
	readsAs(t, "as many as there may be of each", written(f), f)
	f.Chars[255].W = 255
	writesNot(t, "a width more", f, api.ErrSize)
}

func TestP304Words(t *testing.T) {
	f := bare()
	f.Kerns = make([]int, 32767-12)
	if b := written(f); len(b) != 4*32767 || b[0] != 127 || b[1] != 255 {
		t.Errorf("32767 words: %d bytes", len(b))
	}
	f.Kerns = append(f.Kerns, 0)
	writesNot(t, "32768 words", f, api.ErrSize)
	f.Kerns = make([]int, 256*128)
	writesNot(t, "as many kerns as there may be", f, api.ErrSize)
	f = bare()
	f.Steps, f.Params = idle(32510), make([]int, 32767-12-32510)
	readsAs(t, "as many steps as there may be", written(f), f)
	f.Params = append(f.Params, 0)
	writesNot(t, "a param too many beside the steps", f, api.ErrSize)
	f = many(256)
	f.Kerns, f.Pieces = make([]int, 32767-6-2-256-5-256), make([][4]byte, 256)
	readsAs(t, "each counts", written(f), f)
	f.Chars[0].H = 1
	writesNot(t, "a height too many", f, api.ErrSize)
	f.Chars[0].H, f.Chars[0].W = 0, 1
	writesNot(t, "a width too many", f, api.ErrSize)
}

// ErrFont comes ahead of ErrSize.
func TestP304Order(t *testing.T) {
	f := spread(256, 1, setW)
	f.Design = 0
	writesNot(t, "no font, and too much", f, api.ErrFont)
	f = bare()
	f.Kerns = make([]int, 256*128+1)
	writesNot(t, "a kern more than there may be", f, api.ErrFont)
}

// opened: bytes as the tables that they lay; what they have no words for panics.
func opened(b []byte) tables {
	half := func(at int) int { return int(binary.BigEndian.Uint16(b[2*at:])) }
	left := b[24:]
	cut := func(n int) (l [][4]byte) {
		for range n {
			l = append(l, [4]byte(left))
			left = left[4:]
		}
		return l
	}
	fixes := func(n int) (l []int) {
		for _, w := range cut(n) {
			l = append(l, int(int32(binary.BigEndian.Uint32(w[:]))))
		}
		return l
	}
	t := tables{bc: half(2), ec: half(3)}
	for _, n := range fixes(half(1)) {
		t.header = append(t.header, uint32(n))
	}
	t.chars = cut(half(3) - half(2) + 1)
	t.widths, t.heights, t.depths, t.italics = fixes(half(4)), fixes(half(5)), fixes(half(6)), fixes(half(7))
	t.steps, t.kerns, t.pieces, t.params = cut(half(8)), fixes(half(9)), cut(half(10)), fixes(half(11))
	return t
}

// Of any font that can be written: the tables are just what the chapter says.
func TestP304Tables(t *testing.T) {
	r := random{5}
	for i := range 200 {
		f := r.font()
		b := written(f)
		got := opened(b)
		if !slices.Equal(got.bytes(), b) {
			t.Fatalf("font %d: the halves are not those of the tables", i)
		}
		if !slices.Equal(got.header, []uint32{f.Check, uint32(f.Design)}) {
			t.Errorf("font %d: header %v", i, got.header)
		}
		values := [4]map[int]bool{{}, {}, {}, {}}
		for j, m := range f.Chars {
			if m == gone {
				if got.chars[j] != [4]byte{} {
					t.Errorf("font %d: what is gone is %v", i, got.chars[j])
				}
				continue
			}
			for k, n := range []int{m.W, m.H, m.D, m.Italic} {
				if k == 0 || n != 0 {
					values[k][n] = true
				}
			}
			w := got.chars[j]
			if x := (api.Metric{W: got.widths[w[0]], H: got.heights[w[1]/16], D: got.depths[w[1]%16], Italic: got.italics[w[2]/4], Tag: int(w[2] % 4), Rest: int(w[3])}); x != m || w[0] == 0 {
				t.Errorf("font %d: %v is written as %v", i, m, w)
			}
		}
		for k, l := range [][]int{got.widths, got.heights, got.depths, got.italics} {
			checkTable(t, "font "+strconv.Itoa(i)+", table "+strconv.Itoa(k), l, values[k])
		}
	}
}

// checkTable: 0, and behind it just the values, rising, each once.
func checkTable(t *testing.T, name string, l []int, values map[int]bool) {
	t.Helper()
	if l[0] != 0 || len(l) != 1+len(values) {
		t.Errorf("%s: %v, of %d values", name, l, len(values))
	}
	for i, n := range l[1:] {
		if !values[n] || i > 0 && n <= l[i] {
			t.Errorf("%s: %v", name, l)
		}
	}
}

func TestP307Font(t *testing.T) {
	r := random{7}
	for i := range 300 {
		f := r.font()
		readsAs(t, "random font "+strconv.Itoa(i), written(f), f)
	}
	for _, x := range rightFonts() {
		if b, e := font.Write(x.f); e == api.OK {
			readsAs(t, x.name, b, x.f)
		} else if e != api.ErrSize {
			t.Errorf("%s: Write: %d", x.name, e)
		}
	}
}

// again: whatever Read takes is a font, which can be written, and then read and written as before.
func again(t *testing.T, b []byte) (taken bool) {
	t.Helper()
	f, e := font.Read(b)
	if e != api.OK {
		if e != api.ErrFont || !none(f) {
			t.Errorf("Read of %v = %v, %d", b, f, e)
		}
		return false
	}
	if e := font.Check(f); e != api.OK {
		t.Errorf("Read of %v is no font: %+v", b, f)
		return true
	}
	c, e := font.Write(f)
	if e != api.OK || len(c) > len(b) {
		t.Errorf("Read of %v can't be written: %d", b, e)
		return true
	}
	readsAs(t, "again", c, f)
	g, _ := font.Read(c)
	writesAs(t, "again", g, c)
	return true
}

func TestP307Bytes(t *testing.T) {
	loose := richTables()
	loose.header = append(loose.header, 5, 6, 7)
	loose.bc, loose.ec = 8, 22
	loose.chars = slices.Concat([][4]byte{{0, 255, 255, 255}, {}}, loose.chars, [][4]byte{{}, {0, 1, 2, 3}})
	loose.widths = append(loose.widths, 300, 4, math.MaxInt32)
	loose.chars[2][0] = 7
	loose.heights = append(loose.heights, 0)
	loose.chars[7][1], loose.chars[7][3] = 0x50, 99
	b := loose.bytes()
	if !again(t, b) {
		t.Fatal("loose bytes are not read")
	}
	readsAs(t, "loose", b, rich())
	f, _ := font.Read(b)
	writesAs(t, "loose", f, richTables().bytes())
}

// Bytes changed here and there: they are a font, or they are not, and no call panics.
func TestP307Changed(t *testing.T) {
	r := random{9}
	var taken, left int
	for range 60 {
		good := written(r.font())
		if len(good) > 3000 {
			good = richTables().bytes()
		}
		for range 200 {
			b := slices.Clone(good)
			for range 1 + r.below(3) {
				b[r.below(len(b))] = byte(r.below(256) >> r.below(8))
			}
			if again(t, b) {
				taken++
			} else {
				left++
			}
		}
	}
	if taken < 100 || left < 100 {
		t.Errorf("%d were taken, %d were not: too few to tell", taken, left)
	}
}

func TestP307Each(t *testing.T) {
	good := richTables().bytes()
	for at := range good {
		for n := range 256 {
			b := slices.Clone(good)
			b[at] = byte(n)
			again(t, b)
		}
	}
}

func TestP307Noise(t *testing.T) {
	r := random{11}
	for i := range 500 {
		b := make([]byte, r.below(400))
		for j := range b {
			b[j] = byte(r.below(256))
		}
		if len(b) > 24 && i%2 == 0 {
			copy(b, exampleTables().bytes()[:24])
			b[0], b[1] = byte(len(b)/4>>8), byte(len(b)/4)
		}
		again(t, b)
	}
}
