package font

import "galley/api"

// reader cuts words off bytes. Where they are not what they must be it gives up by a panic, so that none of its steps
// need ask whether the one ahead of it came through.
type reader struct {
	left []byte
}

// need gives up, unless it is so.
func need(so bool) {
	if !so {
		panic(api.ErrFont)
	}
}

// Read: of bytes.
func Read(b []byte) (f api.Font, e api.Errno) {
	if len(b) > api.MaxBytes {
		return api.Font{}, api.ErrSize
	}
	defer func() {
		if recover() != nil {
			f, e = api.Font{}, api.ErrFont
		}
	}()
	r := &reader{left: b}
	return r.font(), api.OK
}

// take cuts off so many bytes.
func (r *reader) take(n int) []byte {
	need(n <= len(r.left))
	taken := r.left[:n]
	r.left = r.left[n:]
	return taken
}

func (r *reader) half() int {
	b := r.take(2)
	n := int(b[0])<<8 | int(b[1])
	need(n <= mostHalf)
	return n
}

// table cuts off so many words, each as what it means.
func table[T any](r *reader, n int, as func(word) T) []T {
	var l []T
	for range n {
		l = append(l, as(word(r.take(4))))
	}
	return l
}

// counts must come to just what there is: so the tables behind them have all their words.
func (r *reader) counts() counts {
	all := len(r.left)
	n := counts{
		lf: r.half(), lh: r.half(), bc: r.half(), ec: r.half(), nw: r.half(), nh: r.half(),
		nd: r.half(), ni: r.half(), nl: r.half(), nk: r.half(), ne: r.half(), np: r.half(),
	}
	need(all == 4*n.lf && n.lf == n.words())
	need(n.lh >= headerWords && n.bc <= n.ec+1 && n.ec < codes)
	return n
}

func (r *reader) font() api.Font {
	n := r.counts()
	header := table(r, n.lh, unsigned)
	chars := table(r, n.chars(), func(w word) word { return w })
	d := r.dimens(n)
	f := api.Font{
		Check:  header[0],
		Design: int(header[1]),
		First:  n.bc,
		Chars:  d.metrics(chars),
		Steps:  table(r, n.nl, stepOf),
		Kerns:  table(r, n.nk, signed),
		Pieces: table(r, n.ne, piecesOf),
		Params: table(r, n.np, signed),
	}
	f.First, f.Chars = trimmed(f.First, f.Chars)
	need(Check(f) == api.OK)
	return f
}

func (r *reader) dimens(n counts) dimens {
	d := dimens{
		widths:  table(r, n.nw, signed),
		heights: table(r, n.nh, signed),
		depths:  table(r, n.nd, signed),
		italics: table(r, n.ni, signed),
	}
	for _, l := range [4][]int{d.widths, d.heights, d.depths, d.italics} {
		need(number(l, 0) == 0)
	}
	return d
}

// number: that at a place of a table, which must have it.
func number(l []int, place byte) int {
	need(int(place) < len(l))
	return l[place]
}

func (d dimens) metrics(chars []word) []api.Metric {
	var l []api.Metric
	for _, w := range chars {
		l = append(l, d.metric(w))
	}
	return l
}

// metric: of a character that is not there the other bytes are not even looked at.
func (d dimens) metric(w word) api.Metric {
	if w[0] == 0 {
		return api.Metric{Tag: missing}
	}
	m := api.Metric{
		W:      number(d.widths, w[0]),
		H:      number(d.heights, w[1]>>4),
		D:      number(d.depths, w[1]&15),
		Italic: number(d.italics, w[2]>>2),
		Tag:    int(w[2] & 3),
		Rest:   int(w[3]),
	}
	if m.Tag == plain {
		m.Rest = 0
	}
	return m
}

// trimmed: without those at both ends that are not there; where none is left there is no first one.
func trimmed(first int, l []api.Metric) (int, []api.Metric) {
	for len(l) > 0 && l[len(l)-1].Tag == missing {
		l = l[:len(l)-1]
	}
	for len(l) > 0 && l[0].Tag == missing {
		l = l[1:]
		first++
	}
	if len(l) == 0 {
		return 0, nil
	}
	return first, l
}
