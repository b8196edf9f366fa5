package nodes

import (
	"iter"

	"galley/api"
)

// outline: a list, and for each place at which an item begins the place behind that item's last node; for others 0.
type outline struct {
	nodes  []api.Node
	behind []int
}

// span: nodes from from to ahead of to.
type span struct {
	from, to int
}

// walk: through a list, node by node.
type walk struct {
	outline
	open    []opened
	deepest int
}

// opened: an item whose End has not come yet.
type opened struct {
	at, seps int
}

// outlineOf: of a list, or the list's error.
func outlineOf(l []api.Node) (outline, api.Errno) {
	if len(l) > api.MaxNodes {
		return outline{}, api.ErrSize
	}
	w := walk{outline: outline{l, make([]int, len(l))}}
	if !w.through() {
		return outline{}, api.ErrList
	}
	// Asked behind all else: what is no list is that, however deep it is.
	if w.deepest > api.MaxDeep {
		return outline{}, api.ErrDeep
	}
	return w.outline, api.OK
}

// through: is it a list, to its end?
func (w *walk) through() (whole bool) {
	may, step := rights(), steps()
walk:
	for at := 0; ; at++ {
		switch {
		case at == len(w.nodes):
			whole = len(w.open) == 0
			break walk
		case !may.hold(node(w.nodes[at])), !step[w.nodes[at].Kind](w, at):
			break walk
		}
	}
	return whole
}

// steps: by the kind: what a node does to what is open; they tell whether it may stand at its place.
func steps() [kinds]func(*walk, int) bool {
	return [kinds]func(*walk, int) bool{
		api.Char:    (*walk).stand,
		api.Lig:     (*walk).stand,
		api.Rule:    (*walk).stand,
		api.HBox:    (*walk).enter,
		api.VBox:    (*walk).enter,
		api.End:     (*walk).leave,
		api.Skip:    (*walk).stand,
		api.Kern:    (*walk).stand,
		api.Penalty: (*walk).stand,
		api.Disc:    (*walk).enter,
		api.Sep:     (*walk).part,
		api.Mark:    (*walk).stand,
		api.Ins:     (*walk).enter,
		api.Special: (*walk).stand,
		api.MathOn:  (*walk).stand,
		api.MathOff: (*walk).stand,
		api.Adjust:  (*walk).enter,
	}
}

// stand: an item that is one node.
func (w *walk) stand(at int) bool {
	w.behind[at] = at + 1
	return w.begin(at)
}

// enter: an item whose contents come behind it.
func (w *walk) enter(at int) bool {
	begun := w.begin(at)
	w.open = append(w.open, opened{at: at})
	return begun
}

// begin: may an item begin here?
func (w *walk) begin(at int) bool {
	w.deepest = max(w.deepest, len(w.open)+1)
	return !w.inDisc() || broken(w.nodes[at])
}

// leave: the End of what was opened last.
func (w *walk) leave(at int) bool {
	last := len(w.open) - 1
	if last < 0 || w.inDisc() && w.open[last].seps != 2 {
		return false
	}
	w.behind[w.open[last].at] = at + 1
	w.open = w.open[:last]
	return true
}

// part: from one of a Disc's lists to the next.
func (w *walk) part(int) bool {
	if !w.inDisc() {
		return false
	}
	seps := &w.open[len(w.open)-1].seps
	*seps++
	return *seps <= 2
}

// inDisc: is it a Disc that was opened last?
func (w *walk) inDisc() bool {
	last := len(w.open) - 1
	return last >= 0 && w.nodes[w.open[last].at].Kind == api.Disc
}

// broken: may it be an item of a Disc's lists? What falls away at a break, or leaves a line, may not.
func broken(n api.Node) bool {
	switch n.Kind {
	case api.Char, api.Lig, api.Kern, api.Rule, api.HBox, api.VBox:
		return true
	}
	return false
}

// begins: does an item begin at a place, within others, too?
func (o outline) begins(at int) bool {
	return at >= 0 && at < len(o.behind) && o.behind[at] != 0
}

// whole: all of the list.
func (o outline) whole() span { return span{0, len(o.nodes)} }

// inside: what stands between an item's first node and its End.
func (o outline) inside(at int) span { return span{at + 1, o.behind[at] - 1} }

// parts: a Disc's three lists.
func (o outline) parts(at int) [3]span {
	var p [3]span
	from := at + 1
	for i := range p {
		to := from
		for o.behind[to] != 0 {
			to = o.behind[to]
		}
		p[i] = span{from, to}
		from = to + 1
	}
	return p
}

// copied: what stands there, in memory of its own, whose room behind it is its own, too.
func (o outline) copied(s span) []api.Node {
	return append([]api.Node(nil), o.nodes[s.from:s.to]...)
}

// items: where those of a list begin that is a piece of this one.
func (o outline) items(s span) iter.Seq[int] {
	return func(yield func(int) bool) {
		for at := s.from; at < s.to && yield(at); at = o.behind[at] {
		}
	}
}

func (o outline) count(s span) int {
	n := 0
	for range o.items(s) {
		n++
	}
	return n
}

// row: the items that stand side by side, where no line is broken: in place of a Disc those of its third list.
func (o outline) row() iter.Seq[node] {
	return func(yield func(node) bool) {
	items:
		for at := range o.items(o.whole()) {
			here := span{at, o.behind[at]}
			if o.nodes[at].Kind == api.Disc {
				here = o.parts(at)[2]
			}
			for at := range o.items(here) {
				if !yield(node(o.nodes[at])) {
					break items
				}
			}
		}
	}
}

// column: the items that stand one above the other.
func (o outline) column() iter.Seq[node] {
	return func(yield func(node) bool) {
		for at := range o.items(o.whole()) {
			if !yield(node(o.nodes[at])) {
				return
			}
		}
	}
}
