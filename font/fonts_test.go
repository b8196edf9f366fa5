package font_test

import (
	"encoding/binary"
	"math"
	"slices"
	"strconv"

	"galley/api"
	"galley/font"
)

const (
	leastFix = -1 << 24
	mostFix  = 1<<24 - 1
)

// gone: of a character that is not there.
var gone = api.Metric{Tag: -1}

// example: the chapter's F.
func example() api.Font {
	return api.Font{Check: 7, Design: 10 << 20, First: 97, Chars: []api.Metric{{W: 1 << 19, H: 1 << 18}}, Params: []int{0, 1 << 18}}
}

// rich has something of everything, much of it at its bounds.
func rich() api.Font {
	return api.Font{
		Check: 1<<32 - 1, Design: 1<<31 - 1, First: 10,
		Chars: []api.Metric{
			{W: 300, H: 20, Tag: 1, Rest: 1},
			gone,
			{W: -1, D: 5, Tag: 2, Rest: 13},
			{W: 300, H: -7, D: 5, Italic: 9, Tag: 2, Rest: 20},
			{W: 300, Italic: -9, Tag: 3},
			{},
			{W: mostFix, H: leastFix, D: mostFix, Italic: leastFix},
			gone,
			{W: leastFix, H: mostFix, D: leastFix, Italic: mostFix, Tag: 1, Rest: 6},
			{H: 20, Tag: 3, Rest: 1},
			{W: 7},
		},
		Steps: []api.Step{
			{Skip: 255, Next: 200, Op: 9, Rest: 9},
			{Skip: 0, Next: 12, Op: 128, Rest: 2},
			{Skip: 1, Next: 200, Op: 128, Rest: 0},
			{Skip: 128, Next: 16, Op: 127, Rest: 20},
			{Skip: 129, Next: 77, Op: 0, Rest: 6},
			{Skip: 0, Next: 10, Op: 0, Rest: 10},
			{Skip: 255, Next: 3, Op: 0, Rest: 1},
		},
		Kerns:  []int{leastFix, 0, mostFix},
		Pieces: [][4]byte{{0, 0, 0, 14}, {10, 12, 13, 20}},
		Params: []int{math.MinInt32, mostFix, leastFix, 0},
	}
}

// bare: without characters.
func bare() api.Font { return api.Font{Design: 1 << 20} }

// many: fonts of so many characters, from 0 on.
func many(n int) api.Font {
	f := bare()
	f.Chars = make([]api.Metric, n)
	return f
}

// clone shares nothing with f.
func clone(f api.Font) api.Font {
	f.Chars, f.Steps, f.Kerns = slices.Clone(f.Chars), slices.Clone(f.Steps), slices.Clone(f.Kerns)
	f.Pieces, f.Params = slices.Clone(f.Pieces), slices.Clone(f.Params)
	return f
}

// same: nil and empty lists mean the same.
func same(f, g api.Font) bool {
	return f.Check == g.Check && f.Design == g.Design && f.First == g.First && slices.Equal(f.Chars, g.Chars) &&
		slices.Equal(f.Steps, g.Steps) && slices.Equal(f.Kerns, g.Kerns) && slices.Equal(f.Pieces, g.Pieces) &&
		slices.Equal(f.Params, g.Params)
}

func none(f api.Font) bool { return same(f, api.Font{}) }

// named: a font, and what is so with it.
type named struct {
	name string
	f    api.Font
}

// edited: fonts, each made of one by an edit.
type edited struct{ l []named }

func (l *edited) add(name string, f api.Font, edit func(*api.Font)) {
	f = clone(f)
	edit(&f)
	l.l = append(l.l, named{name, f})
}

// wrongFonts: each is wrong in one thing alone.
func wrongFonts() []named {
	l := &edited{}
	wrongNumbers(l)
	wrongMany(l)
	wrongChars(l)
	wrongRests(l)
	wrongSteps(l)
	for i, p := range [][4]byte{{11, 0, 0, 10}, {0, 17, 0, 10}, {0, 0, 9, 10}, {21, 0, 0, 10}, {10, 255, 0, 10}, {0, 0, 0, 0}, {10, 10, 10, 0}, {0, 0, 0, 11}, {0, 0, 0, 21}, {0, 0, 0, 255}} {
		l.add("pieces "+strconv.Itoa(i), rich(), func(f *api.Font) { f.Pieces[1] = p })
	}
	return l.l
}

func wrongNumbers(l *edited) {
	for _, n := range []int{0, -1, 1, 1<<20 - 1, 1 << 31, 1 << 32, 1<<32 + 1<<20, math.MinInt, math.MaxInt} {
		l.add("Design "+strconv.Itoa(n), rich(), func(f *api.Font) { f.Design = n })
	}
	for _, n := range []int{mostFix + 1, leastFix - 1, 1 << 32, -1 << 32, math.MinInt, math.MaxInt} {
		name := strconv.Itoa(n)
		l.add("W "+name, rich(), func(f *api.Font) { f.Chars[4].W = n })
		l.add("H "+name, rich(), func(f *api.Font) { f.Chars[0].H = n })
		l.add("D "+name, rich(), func(f *api.Font) { f.Chars[10].D = n })
		l.add("Italic "+name, rich(), func(f *api.Font) { f.Chars[5].Italic = n })
		l.add("a kern "+name, rich(), func(f *api.Font) { f.Kerns[0] = n })
		l.add("the last kern "+name, rich(), func(f *api.Font) { f.Kerns[2] = n })
		l.add("the second param "+name, rich(), func(f *api.Font) { f.Params[1] = n })
		l.add("the last param "+name, rich(), func(f *api.Font) { f.Params[3] = n })
	}
	for _, n := range []int{1 << 31, -1<<31 - 1, 1 << 32, math.MinInt, math.MaxInt} {
		l.add("the first param "+strconv.Itoa(n), rich(), func(f *api.Font) { f.Params[0] = n })
		l.add("the only param "+strconv.Itoa(n), bare(), func(f *api.Font) { f.Params = []int{n} })
	}
}

func wrongMany(l *edited) {
	l.add("a step more", bare(), func(f *api.Font) { f.Steps = idle(32511) })
	l.add("a kern more", bare(), func(f *api.Font) { f.Kerns = make([]int, 256*128+1) })
	l.add("pieces more", many(1), func(f *api.Font) { f.Pieces = make([][4]byte, 257) })
	l.add("a param more", bare(), func(f *api.Font) { f.Params = make([]int, 256) })
	l.add("a character more", many(256), func(f *api.Font) { f.Chars = append(f.Chars, api.Metric{}) })
	l.add("a place too far", many(256), func(f *api.Font) { f.First = 1 })
	l.add("far too many", many(1), func(f *api.Font) { f.Chars = make([]api.Metric, 100000) })
	for _, n := range []int{-1, 1, 96, 255, 256, math.MinInt, math.MaxInt} {
		l.add("none, First "+strconv.Itoa(n), bare(), func(f *api.Font) { f.First = n })
	}
	for _, n := range []int{-1, 256, 257, 1 << 32, math.MinInt, math.MinInt + 97, math.MaxInt} {
		l.add("one, First "+strconv.Itoa(n), many(1), func(f *api.Font) { f.First = n })
	}
	l.add("two, First 255", many(2), func(f *api.Font) { f.First = 255 })
}

func wrongChars(l *edited) {
	l.add("the first is gone", rich(), func(f *api.Font) { f.First, f.Chars = 9, append([]api.Metric{gone}, f.Chars...) })
	l.add("the last is gone", rich(), func(f *api.Font) { f.Chars = append(f.Chars, gone) })
	l.add("the only one is gone", many(1), func(f *api.Font) { f.Chars[0] = gone })
	for _, n := range []int{-2, 4, 5, 255, 256, -256, math.MinInt, math.MaxInt} {
		l.add("Tag "+strconv.Itoa(n), rich(), func(f *api.Font) { f.Chars[5].Tag = n })
		l.add("Tag of what is gone "+strconv.Itoa(n), rich(), func(f *api.Font) { f.Chars[1].Tag = n })
		l.add("Tag at the beginning "+strconv.Itoa(n), many(3), func(f *api.Font) { f.Chars[0].Tag = n })
		l.add("Tag at the end "+strconv.Itoa(n), many(3), func(f *api.Font) { f.Chars[2].Tag = n })
	}
	for i, m := range []api.Metric{{W: 1, Tag: -1}, {H: 1, Tag: -1}, {D: -1, Tag: -1}, {Italic: 1, Tag: -1}, {Rest: 1, Tag: -1}, {Rest: 13, Tag: -1}} {
		l.add("gone, but not 0: "+strconv.Itoa(i), rich(), func(f *api.Font) { f.Chars[1] = m })
	}
}

func wrongRests(l *edited) {
	for _, n := range []int{-1, 256, 1 << 32, math.MinInt, math.MaxInt} {
		for tag := range 4 {
			l.add("Tag "+strconv.Itoa(tag)+", Rest "+strconv.Itoa(n), rich(), func(f *api.Font) { f.Chars[5] = api.Metric{Tag: tag, Rest: n} })
		}
	}
	for _, m := range []api.Metric{{Rest: 1}, {Rest: 10}, {Tag: 1, Rest: 7}, {Tag: 1, Rest: 255}, {Tag: 2}, {Tag: 2, Rest: 9}, {Tag: 2, Rest: 11}, {Tag: 2, Rest: 17}, {Tag: 2, Rest: 21}, {Tag: 2, Rest: 255}, {Tag: 3, Rest: 2}, {Tag: 3, Rest: 255}} {
		l.add("Tag "+strconv.Itoa(m.Tag)+", Rest "+strconv.Itoa(m.Rest), rich(), func(f *api.Font) { f.Chars[10] = m })
	}
	l.add("a program without steps", many(2), func(f *api.Font) { f.Chars[0].Tag = 1 })
	l.add("pieces that are none", many(2), func(f *api.Font) { f.Chars[0].Tag = 3 })
	l.add("a place above 255 in steps", many(2), func(f *api.Font) { f.Steps, f.Chars[0] = idle(300), api.Metric{Tag: 1, Rest: 256} })
	l.add("pieces above 255", many(2), func(f *api.Font) { f.Pieces, f.Chars[0] = make([][4]byte, 256), api.Metric{Tag: 3, Rest: 256} })
	l.add("its own greater one", many(3), func(f *api.Font) { chain(f, 0, 0) })
	l.add("the last one its own", many(3), func(f *api.Font) { chain(f, 2, 2) })
	l.add("each other's greater one", many(3), func(f *api.Font) { chain(f, 0, 2, 0) })
	l.add("a way into a ring", many(5), func(f *api.Font) { chain(f, 0, 1, 2, 3, 4, 2) })
	l.add("a ring, then a way into it", many(5), func(f *api.Font) { chain(f, 4, 3, 2, 1, 0, 1) })
	l.add("a ring behind a chain that ends", many(5), func(f *api.Font) { chain(f, 0, 1); chain(f, 2, 3, 4, 2) })
	l.add("a ring of all", many(256), func(f *api.Font) { chain(f, append(upwards(256), 0)...) })
	l.add("all lead to one that is its own", many(256), func(f *api.Font) { chain(f, append(upwards(256), 255)...) })
}

func wrongSteps(l *edited) {
	for i, s := range []api.Step{
		{Skip: 128, Next: 11, Op: 0, Rest: 10}, {Skip: 128, Next: 0, Op: 0, Rest: 10}, {Skip: 128, Next: 9, Op: 128}, {Skip: 128, Next: 21, Op: 0, Rest: 10},
		{Skip: 128, Next: 199, Op: 128}, {Skip: 128, Next: 255, Op: 128}, {Skip: 128, Next: 9, Op: 0, Rest: 10},
		{Skip: 128, Next: 10, Op: 0, Rest: 0}, {Skip: 128, Next: 10, Op: 0, Rest: 11}, {Skip: 128, Next: 10, Op: 127, Rest: 21}, {Skip: 128, Next: 10, Op: 5, Rest: 200},
		{Skip: 128, Next: 10, Op: 128, Rest: 3}, {Skip: 128, Next: 10, Op: 128, Rest: 255}, {Skip: 128, Next: 10, Op: 129}, {Skip: 128, Next: 10, Op: 255, Rest: 255},
		{Skip: 3, Next: 10, Op: 128}, {Skip: 4, Next: 10, Op: 128}, {Skip: 127, Next: 10, Op: 128},
		{Skip: 129, Op: 0, Rest: 7}, {Skip: 129, Op: 1}, {Skip: 254, Op: 0, Rest: 7}, {Skip: 254, Op: 255, Rest: 255}, {Skip: 255, Op: 0, Rest: 7}, {Skip: 255, Op: 1, Rest: 0},
	} {
		l.add("step "+strconv.Itoa(i), rich(), func(f *api.Font) { f.Steps[3] = s })
	}
	for i, s := range []api.Step{{Skip: 254, Next: 200, Op: 0, Rest: 7}, {Skip: 255, Next: 199}, {Skip: 254, Next: 200}, {Skip: 128, Next: 200, Op: 0, Rest: 10}} {
		l.add("a first step "+strconv.Itoa(i), rich(), func(f *api.Font) { f.Steps[0] = s })
	}
	for i, s := range []api.Step{{Skip: 0, Next: 10, Op: 128}, {Skip: 127, Next: 10, Op: 128}, {Skip: 255, Next: 10, Op: 0, Rest: 7}} {
		l.add("a last step "+strconv.Itoa(i), rich(), func(f *api.Font) { f.Steps[6] = s })
	}
	l.add("no boundary behind the first step", many(1), func(f *api.Font) {
		f.Steps = []api.Step{{Skip: 254}, {Skip: 255, Next: 9}, {Skip: 128, Next: 9}}
	})
	l.add("a skip past the end", many(1), func(f *api.Font) { f.Kerns, f.Steps = []int{0}, append([]api.Step{{Skip: 127, Op: 128}}, idle(127)...) })
	l.add("an only step of 254", bare(), func(f *api.Font) { f.Steps = []api.Step{{Skip: 254, Rest: 1}} })
}

// rightFonts: at their bounds.
func rightFonts() []named {
	l := &edited{}
	for _, f := range []named{{"example", example()}, {"rich", rich()}, {"bare", bare()}, {"one", many(1)}, {"all", many(256)}} {
		l.add(f.name, f.f, func(*api.Font) {})
	}
	for _, n := range []int{1 << 20, 1<<20 + 1, 1<<31 - 1, 1<<31 - 128} {
		l.add("Design "+strconv.Itoa(n), rich(), func(f *api.Font) { f.Design = n })
	}
	for _, n := range []int{0, 1, 254, 255} {
		l.add("one, First "+strconv.Itoa(n), many(1), func(f *api.Font) { f.First = n })
	}
	l.add("up to the last", many(255), func(f *api.Font) { f.First = 1 })
	l.add("only both ends", many(256), func(f *api.Font) {
		for i := range 254 {
			f.Chars[i+1] = gone
		}
	})
	l.add("as many steps", bare(), func(f *api.Font) { f.Steps = idle(32510) })
	l.add("as many kerns", bare(), func(f *api.Font) { f.Kerns = make([]int, 256*128) })
	l.add("as many pieces", many(1), func(f *api.Font) { f.Pieces, f.Chars[0] = make([][4]byte, 256), api.Metric{Tag: 3, Rest: 255} })
	l.add("as many params", bare(), func(f *api.Font) { f.Params = append([]int{math.MaxInt32}, make([]int, 254)...) })
	l.add("a chain of all", many(256), func(f *api.Font) { chain(f, upwards(256)...) })
	l.add("chains that meet", many(6), func(f *api.Font) { chain(f, 0, 4, 3, 5); chain(f, 1, 4); chain(f, 2, 3) })
	rightSteps(l)
	return l.l
}

func rightSteps(l *edited) {
	l.add("a program at 255", many(2), func(f *api.Font) { f.Steps, f.Chars[0] = idle(256), api.Metric{Tag: 1, Rest: 255} })
	l.add("the last kern", many(1), func(f *api.Font) {
		f.Kerns, f.Steps = make([]int, 256*128), []api.Step{{Skip: 128, Op: 255, Rest: 255}}
	})
	l.add("the farthest step", many(1), func(f *api.Font) {
		f.Steps = idle(32510)
		f.Steps[0] = api.Step{Skip: 254, Next: 99, Op: 126, Rest: 253}
		f.Steps[32509] = api.Step{Skip: 200, Next: 7, Op: 126, Rest: 253}
	})
	l.add("the farthest skip", many(1), func(f *api.Font) { f.Kerns, f.Steps = []int{0}, append([]api.Step{{Skip: 127, Op: 128}}, idle(128)...) })
	l.add("an only step that leads nowhere", bare(), func(f *api.Font) { f.Steps = []api.Step{{Skip: 255, Next: 1, Op: 255, Rest: 255}} })
	l.add("an only step that leads to itself", bare(), func(f *api.Font) { f.Steps = []api.Step{{Skip: 254, Next: 1}} })
	l.add("a boundary that is there", rich(), func(f *api.Font) { f.Steps[0].Next, f.Steps[2].Next = 16, 16 })
	l.add("pieces of the character 0", many(1), func(f *api.Font) { f.Pieces = [][4]byte{{0, 0, 0, 0}} })
}

// idle: so many steps that say nothing.
func idle(n int) []api.Step {
	return slices.Repeat([]api.Step{{Skip: 129}}, n)
}

// chain: each is the greater one of that ahead of it.
func chain(f *api.Font, l ...int) {
	for i, c := range l[1:] {
		f.Chars[l[i]-f.First].Tag, f.Chars[l[i]-f.First].Rest = 2, c
	}
}

func upwards(n int) (l []int) {
	for i := range n {
		l = append(l, i)
	}
	return l
}

// tables: of a font's bytes, word by word, as the chapter lays them.
type tables struct {
	header                           []uint32
	bc, ec                           int
	chars                            [][4]byte
	widths, heights, depths, italics []int
	steps                            [][4]byte
	kerns                            []int
	pieces                           [][4]byte
	params                           []int
}

// bytes: with the halves that the tables ask for; chars need not be as many as bc and ec say.
func (t tables) bytes() []byte {
	var b []byte
	for _, n := range t.header {
		b = binary.BigEndian.AppendUint32(b, n)
	}
	b = append(b, slices.Concat(flat(t.chars), numbers(t.widths), numbers(t.heights), numbers(t.depths), numbers(t.italics))...)
	b = append(b, slices.Concat(flat(t.steps), numbers(t.kerns), flat(t.pieces), numbers(t.params))...)
	var head []byte
	for _, n := range []int{6 + len(b)/4, len(t.header), t.bc, t.ec, len(t.widths), len(t.heights), len(t.depths), len(t.italics), len(t.steps), len(t.kerns), len(t.pieces), len(t.params)} {
		head = binary.BigEndian.AppendUint16(head, uint16(n))
	}
	return append(head, b...)
}

func flat(l [][4]byte) (b []byte) {
	for _, w := range l {
		b = append(b, w[:]...)
	}
	return b
}

func numbers(l []int) (b []byte) {
	for _, n := range l {
		b = binary.BigEndian.AppendUint32(b, uint32(n))
	}
	return b
}

// exampleTables: the chapter's bytes.
func exampleTables() tables {
	return tables{
		header: []uint32{7, 10 << 20}, bc: 97, ec: 97, chars: [][4]byte{{1, 16, 0, 0}},
		widths: []int{0, 1 << 19}, heights: []int{0, 1 << 18}, depths: []int{0}, italics: []int{0}, params: []int{0, 1 << 18},
	}
}

// richTables: of rich, as Write writes it.
func richTables() tables {
	return tables{
		header: []uint32{1<<32 - 1, 1<<31 - 1}, bc: 10, ec: 20,
		chars: [][4]byte{
			{5, 0x30, 0<<2 | 1, 1},
			{},
			{2, 0x02, 0<<2 | 2, 13},
			{5, 0x22, 3<<2 | 2, 20},
			{5, 0x00, 2<<2 | 3, 0},
			{3, 0x00, 0, 0},
			{6, 0x13, 1 << 2, 0},
			{},
			{1, 0x41, 4<<2 | 1, 6},
			{3, 0x30, 0<<2 | 3, 1},
			{4, 0x00, 0, 0},
		},
		widths:  []int{0, leastFix, -1, 0, 7, 300, mostFix},
		heights: []int{0, leastFix, -7, 20, mostFix},
		depths:  []int{0, leastFix, 5, mostFix},
		italics: []int{0, leastFix, -9, 9, mostFix},
		steps: [][4]byte{
			{255, 200, 9, 9}, {0, 12, 128, 2}, {1, 200, 128, 0}, {128, 16, 127, 20}, {129, 77, 0, 6}, {0, 10, 0, 10}, {255, 3, 0, 1},
		},
		kerns:  []int{leastFix, 0, mostFix},
		pieces: [][4]byte{{0, 0, 0, 14}, {10, 12, 13, 20}},
		params: []int{math.MinInt32, mostFix, leastFix, 0},
	}
}

// bareTables: of bare, as Write writes it.
func bareTables() tables {
	return tables{header: []uint32{0, 1 << 20}, bc: 1, ec: 0, widths: []int{0}, heights: []int{0}, depths: []int{0}, italics: []int{0}}
}

// random: numbers that a short rule spreads over all sizes.
type random struct{ x uint64 }

func (r *random) below(n int) int {
	r.x = r.x*6364136223846793005 + 1442695040888963407
	return int(r.x>>33) % n
}

// fix: as often small as great, as often 0.
func (r *random) fix() int {
	return (r.below(1<<25) + leastFix) >> r.below(26) * min(1, r.below(4))
}

func (r *random) fixes(most int) []int {
	l := make([]int, r.below(most+1))
	for i := range l {
		l[i] = r.fix()
	}
	return l
}

// one of l, or 0.
func (r *random) one(l []int) int {
	if len(l) == 0 {
		return 0
	}
	return l[r.below(len(l))]
}

// font: one that may be, and can be written.
func (r *random) font() api.Font {
	f := api.Font{Check: uint32(r.below(1 << 31)), Design: 1<<20 + r.below(1<<31-1<<20), Kerns: r.fixes(600), Params: r.fixes(255)}
	var here []byte
	first := r.below(256)
	widths, heights, depths, italics := r.fixes(255), r.fixes(15), r.fixes(15), r.fixes(63)
	for i := range r.below(257 - first) {
		f.Chars = append(f.Chars, gone)
		if i == 0 || r.below(3) > 0 {
			f.First = first
			f.Chars[i] = api.Metric{W: r.one(widths), H: r.one(heights), D: r.one(depths), Italic: r.one(italics)}
			here = append(here, byte(first+i))
		}
	}
	for len(f.Chars) > 0 && f.Chars[len(f.Chars)-1] == gone {
		f.Chars = f.Chars[:len(f.Chars)-1]
	}
	if len(here) > 0 {
		f.Steps = r.steps(here, len(f.Kerns))
		f.Pieces = r.pieces(here)
		r.tags(&f, here)
	}
	return f
}

func (r *random) char(here []byte) byte { return here[r.below(len(here))] }

func (r *random) steps(here []byte, kerns int) []api.Step {
	l := make([]api.Step, r.below(500))
	for i := range l {
		next, to := r.char(here), r.below(len(l))
		switch left := len(l) - 1 - i; {
		case i == 0 && r.below(2) == 0:
			l[i] = api.Step{Skip: 255, Next: byte(r.below(256)), Op: byte(r.below(256)), Rest: byte(r.below(256))}
			continue
		case i > 0 && l[0].Skip == 255 && r.below(5) == 0:
			next = l[0].Next
			fallthrough
		case left > 0 && r.below(3) > 0:
			l[i] = api.Step{Skip: byte(128 - r.below(min(left, 128)+1)), Next: next, Op: byte(r.below(128)), Rest: r.char(here)}
			if l[i].Skip < 128 {
				l[i].Skip = byte(r.below(min(left, 128)))
			}
			if k := r.below(max(2*kerns, 1)); k < kerns {
				l[i].Op, l[i].Rest = byte(128+k/256), byte(k)
			}
		default:
			l[i] = api.Step{Skip: byte(129 + r.below(127)), Next: byte(r.below(256)), Op: byte(to >> 8), Rest: byte(to)}
		}
	}
	return l
}

func (r *random) pieces(here []byte) [][4]byte {
	l := make([][4]byte, r.below(257))
	for i := range l {
		for j := range 4 {
			if j == 3 || r.below(2) == 0 {
				l[i][j] = r.char(here)
			}
		}
	}
	return l
}

// tags: a chain only leads upwards, so it ends.
func (r *random) tags(f *api.Font, here []byte) {
	for i, c := range here {
		m := &f.Chars[int(c)-f.First]
		switch tag := r.below(4); {
		case tag == 1 && len(f.Steps) > 0:
			m.Tag, m.Rest = 1, r.below(min(len(f.Steps), 256))
		case tag == 2 && i+1 < len(here):
			m.Tag, m.Rest = 2, int(r.char(here[i+1:]))
		case tag == 3 && len(f.Pieces) > 0:
			m.Tag, m.Rest = 3, r.below(len(f.Pieces))
		}
	}
}

// written: of a font that can be.
func written(f api.Font) []byte {
	b, e := font.Write(f)
	if e != api.OK {
		panic("a font is not written: " + strconv.Itoa(int(e)))
	}
	return b
}
