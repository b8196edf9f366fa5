package font

import (
	"slices"

	"galley/api"
)

// How many numbers a table may have for their places to fit into a character's word.
const (
	mostWidths  = 256
	mostHeights = 16 // and depths
	mostItalics = 64
)

// Write: as bytes.
func Write(f api.Font) ([]byte, api.Errno) {
	if e := Check(f); e != api.OK {
		return nil, e
	}
	d := dimensOf(f)
	n := countsOf(f, d)
	if n.nw > mostWidths || n.nh > mostHeights || n.nd > mostHeights || n.ni > mostItalics || n.lf > mostHalf {
		return nil, api.ErrSize
	}
	b := n.bytes()
	b = words(b, []int{int(f.Check), f.Design}, ofNumber)
	b = words(b, f.Chars, d.ofMetric)
	for _, l := range [4][]int{d.widths, d.heights, d.depths, d.italics} {
		b = words(b, l, ofNumber)
	}
	b = words(b, f.Steps, ofStep)
	b = words(b, f.Kerns, ofNumber)
	b = words(b, f.Pieces, ofPieces)
	return words(b, f.Params, ofNumber), api.OK
}

// words: the bytes with a table behind them.
func words[T any](b []byte, l []T, as func(T) word) []byte {
	for _, x := range l {
		w := as(x)
		b = append(b, w[:]...)
	}
	return b
}

func countsOf(f api.Font, d dimens) counts {
	n := counts{
		lh: headerWords, bc: f.First, ec: f.First + len(f.Chars) - 1,
		nw: len(d.widths), nh: len(d.heights), nd: len(d.depths), ni: len(d.italics),
		nl: len(f.Steps), nk: len(f.Kerns), ne: len(f.Pieces), np: len(f.Params),
	}
	if len(f.Chars) == 0 {
		// First is 0 then: the last one behind it would be -1, which no half can be.
		n.bc, n.ec = 1, 0
	}
	n.lf = n.words()
	return n
}

func (n counts) bytes() []byte {
	halves := [12]int{n.lf, n.lh, n.bc, n.ec, n.nw, n.nh, n.nd, n.ni, n.nl, n.nk, n.ne, n.np}
	var b []byte
	for _, h := range halves {
		b = append(b, byte(h>>8), byte(h))
	}
	return b
}

// dimensOf: a width of 0 stands twice in its table, as the first place can't be that of a character that is there.
func dimensOf(f api.Font) dimens {
	var d dimens
	for _, m := range f.Chars {
		if m.Tag == missing {
			continue
		}
		d.widths = append(d.widths, m.W)
		d.heights = append(d.heights, m.H)
		d.depths = append(d.depths, m.D)
		d.italics = append(d.italics, m.Italic)
	}
	return dimens{
		widths:  behindZero(rising(d.widths)),
		heights: behindZero(withoutZero(rising(d.heights))),
		depths:  behindZero(withoutZero(rising(d.depths))),
		italics: behindZero(withoutZero(rising(d.italics))),
	}
}

// rising: each once.
func rising(l []int) []int {
	slices.Sort(l)
	return slices.Compact(l)
}

func withoutZero(l []int) []int {
	return slices.DeleteFunc(l, func(n int) bool { return n == 0 })
}

func behindZero(l []int) []int { return append([]int{0}, l...) }

// place: of a number in its table. The 0 at its beginning is for what the rest has not, so that a width of 0, which
// stands there once more, has a place of its own.
func place(l []int, n int) byte {
	at, found := slices.BinarySearch(l[1:], n)
	if !found {
		return 0
	}
	return byte(at + 1)
}

func (d dimens) ofMetric(m api.Metric) word {
	if m.Tag == missing {
		return word{}
	}
	return word{
		place(d.widths, m.W),
		place(d.heights, m.H)<<4 | place(d.depths, m.D),
		place(d.italics, m.Italic)<<2 | byte(m.Tag),
		byte(m.Rest),
	}
}
