package nodes

import (
	"strconv"
	"strings"

	"galley/api"
	"galley/glue"
	"galley/scaled"
)

// Show: as text, so deep and so many at most.
func Show(l []api.Node, deep, many int) (string, api.Errno) {
	o, e := outlineOf(l)
	if e != api.OK {
		return "", e
	}
	if deep < 0 || many < 0 {
		return "", api.ErrRange
	}
	w := writer{outline: o, deep: deep, many: many, texts: texts()}
	w.list(part{span: o.whole(), depth: 1})
	return w.String(), api.OK
}

// writer: of a list's lines.
type writer struct {
	outline
	strings.Builder
	deep, many int
	texts      [kinds]func(entry) string
}

// part: a list that stands in the one that is shown, how deep, and within how many second lists of Discs.
type part struct {
	span
	depth, bars int
}

// line: each part's lines have its points and bars ahead.
func (w *writer) line(p part, text string) {
	w.WriteString(strings.Repeat(".", p.depth-1))
	w.WriteString(strings.Repeat("|", p.bars))
	w.WriteString(text)
	w.WriteByte('\n')
}

func (w *writer) list(p part) {
	if p.depth > w.deep {
		return
	}
	shown := 0
items:
	for at := range w.items(p.span) {
		if shown == w.many {
			w.line(p, "etc.")
			break items
		}
		w.item(p, at)
		shown++
	}
}

func (w *writer) item(p part, at int) {
	inner := w.within(p, at)
	text := w.text(at)
	if p.depth == w.deep && !empty(inner) {
		text += " []"
	}
	w.line(p, text)
	for _, q := range inner {
		w.list(q)
	}
}

// within: the lists within an item that are shown.
func (w *writer) within(p part, at int) []part {
	switch {
	case !opens(w.nodes[at]):
		return nil
	case w.nodes[at].Kind == api.Disc:
		lists := w.parts(at)
		return []part{{lists[0], p.depth + 1, p.bars}, {lists[1], p.depth + 1, p.bars + 1}}
	}
	return []part{{w.inside(at), p.depth + 1, p.bars}}
}

// empty: has none of these an item?
func empty(parts []part) bool {
	for _, p := range parts {
		if p.from < p.to {
			return false
		}
	}
	return true
}

// text: the line of an item, without what stands ahead.
func (w *writer) text(at int) string {
	x := entry{Node: w.nodes[at]}
	if x.Kind == api.Disc {
		x.replaced = w.count(w.parts(at)[2])
	}
	return w.texts[x.Kind](x)
}

// entry: what an item's line tells of: its node, and, of a Disc, how many items stand there without a break.
type entry struct {
	api.Node
	replaced int
}

// texts: by the kind: an item's line. End and Sep are no items.
func texts() [kinds]func(entry) string {
	return [kinds]func(entry) string{
		api.Char:    entry.char,
		api.Lig:     entry.ligature,
		api.Rule:    entry.rule,
		api.HBox:    entry.row,
		api.VBox:    entry.column,
		api.Skip:    entry.skip,
		api.Kern:    entry.kern,
		api.Penalty: entry.penalty,
		api.Disc:    entry.disc,
		api.Mark:    entry.mark,
		api.Ins:     entry.insert,
		api.Special: entry.special,
		api.MathOn:  entry.mathOn,
		api.MathOff: entry.mathOff,
		api.Adjust:  entry.adjust,
	}
}

func (x entry) char() string { return strconv.Itoa(x.Font) + " " + visible(string([]byte{x.Char})) }

func (x entry) ligature() string { return x.char() + " (ligature " + visible(x.Text) + ")" }

func (x entry) rule() string {
	width, height, depth := scaled.Print(x.W), scaled.Print(x.H), scaled.Print(x.D)
	if x.Sub == boxWidth || x.Sub == boxAll {
		width = "*"
	}
	if x.Sub == boxHeight || x.Sub == boxAll {
		height, depth = "*", "*"
	}
	return "rule" + sizes(width, height, depth)
}

func (x entry) row() string { return "hbox" + x.box() }

func (x entry) column() string { return "vbox" + x.box() }

func (x entry) box() string {
	text := sizes(scaled.Print(x.W), scaled.Print(x.H), scaled.Print(x.D)) + x.set()
	if x.Shift != 0 {
		text += ", shifted " + scaled.Print(x.Shift)
	}
	return text
}

// orders: as they stand behind a fraction.
var orders = [mostOrder + 1]string{"", "fil", "fill", "filll"}

// set: how a box's glue is.
func (x entry) set() string {
	if x.Sign == api.Still {
		return ""
	}
	sign := "+"
	if x.Sign == api.Shrinking {
		sign = "-"
	}
	return ", glue set " + sign + " " + strconv.Itoa(x.Num) + "/" + strconv.Itoa(x.Den) + orders[x.Order]
}

func (x entry) skip() string { return "glue " + glue.Show(x.Glue) }

func (x entry) kern() string {
	text := "kern " + scaled.Print(x.W)
	if x.Sub == forAccent {
		text += " (for accent)"
	}
	return text
}

func (x entry) penalty() string { return "penalty " + strconv.Itoa(x.Penalty) }

func (x entry) disc() string { return "discretionary replacing " + strconv.Itoa(x.replaced) }

func (x entry) mark() string { return "mark{" + visible(x.Text) + "}" }

func (x entry) special() string { return "special{" + visible(x.Text) + "}" }

func (x entry) insert() string {
	return "insert " + strconv.Itoa(x.Sub) + ", natural size " + scaled.Print(x.H) +
		"; split(" + glue.Show(x.Glue) + "," + scaled.Print(x.D) + "); float cost " + strconv.Itoa(x.Penalty)
}

func (x entry) mathOn() string { return "mathon" + x.surrounded() }

func (x entry) mathOff() string { return "mathoff" + x.surrounded() }

func (x entry) surrounded() string {
	if x.W == 0 {
		return ""
	}
	return ", surrounded " + scaled.Print(x.W)
}

func (x entry) adjust() string { return "adjust" }

// sizes: as a rule's and a box's line tell them.
func sizes(width, height, depth string) string { return "(" + height + "+" + depth + ")x" + width }

const hexDigits = "0123456789abcdef"

// visible: bytes that no screen has are told by their numbers.
func visible(text string) string {
	var b strings.Builder
	for _, c := range []byte(text) {
		if c >= ' ' && c <= '~' {
			b.WriteByte(c)
			continue
		}
		b.WriteString("^^")
		b.WriteByte(hexDigits[c>>4])
		b.WriteByte(hexDigits[c&15])
	}
	return b.String()
}
