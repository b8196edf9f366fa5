package nodes_test

import (
	"fmt"
	"strings"

	"galley/api"
	"galley/glue"
	"galley/scaled"
)

// What the chapter's words say, done word for word on trees: what the program answers is held against it.

// tree: an item: where it stands, and the lists within it.
type tree struct {
	api.Node
	from, to int
	lists    [][]tree
}

// grow: the items from a place on, up to where there is none.
func grow(l []api.Node, at int) (items []tree, end int, right bool) {
	for at < len(l) && l[at].Kind != api.End && l[at].Kind != api.Sep {
		if !sound(l[at]) {
			return nil, 0, false
		}
		x := tree{Node: l[at], from: at}
		at++
		if strings.ContainsRune("hvdij", rune(letters[x.Kind])) {
			many := 1
			if x.Kind == api.Disc {
				many = 3
			}
			for i := range many {
				inner, to, right := grow(l, at)
				last := api.End
				if i < many-1 {
					last = api.Sep
				}
				if !right || to == len(l) || l[to].Kind != last || !sound(l[to]) || many == 3 && !breakable(inner) {
					return nil, 0, false
				}
				x.lists = append(x.lists, inner)
				at = to + 1
			}
		}
		x.to = at
		items = append(items, x)
	}
	return items, at, true
}

// breakable: may all of these stand in a Disc?
func breakable(items []tree) bool {
	for _, x := range items {
		if !strings.ContainsRune("afkrhv", rune(letters[x.Kind])) {
			return false
		}
	}
	return true
}

// grown: a list's items, or its error.
func grown(l []api.Node) ([]tree, api.Errno) {
	if len(l) > 2000 {
		return nil, api.ErrSize
	}
	items, end, right := grow(l, 0)
	if !right || end != len(l) {
		return nil, api.ErrList
	}
	if depth(items) > 40 {
		return nil, api.ErrDeep
	}
	return items, api.OK
}

// depth: of a list; of one without items it is 0.
func depth(items []tree) int {
	deepest := 0
	for _, x := range items {
		inner := 0
		for _, l := range x.lists {
			inner = max(inner, depth(l))
		}
		deepest = max(deepest, inner+1)
	}
	return deepest
}

// find: the item that begins at a place, within others, too.
func find(items []tree, at int) (tree, bool) {
	for _, x := range items {
		if x.from == at {
			return x, true
		}
		for _, l := range x.lists {
			if y, found := find(l, at); found {
				return y, true
			}
		}
	}
	return tree{}, false
}

// field: one of a node's numbers.
type field struct {
	name string
	of   func(*api.Node) *int
}

func fields() []field {
	return []field{
		{"Font", func(n *api.Node) *int { return &n.Font }},
		{"W", func(n *api.Node) *int { return &n.W }},
		{"H", func(n *api.Node) *int { return &n.H }},
		{"D", func(n *api.Node) *int { return &n.D }},
		{"Shift", func(n *api.Node) *int { return &n.Shift }},
		{"Nat", func(n *api.Node) *int { return &n.Glue.Nat }},
		{"Stretch", func(n *api.Node) *int { return &n.Glue.Stretch }},
		{"Shrink", func(n *api.Node) *int { return &n.Glue.Shrink }},
		{"StretchOrder", func(n *api.Node) *int { return &n.Glue.StretchOrder }},
		{"ShrinkOrder", func(n *api.Node) *int { return &n.Glue.ShrinkOrder }},
		{"Sign", func(n *api.Node) *int { return &n.Sign }},
		{"Order", func(n *api.Node) *int { return &n.Order }},
		{"Num", func(n *api.Node) *int { return &n.Num }},
		{"Den", func(n *api.Node) *int { return &n.Den }},
		{"Penalty", func(n *api.Node) *int { return &n.Penalty }},
		{"Sub", func(n *api.Node) *int { return &n.Sub }},
	}
}

var allFields = fields()

// having: which kinds have a field.
var having = map[string]string{
	"Font": "af", "W": "afrhvk+-", "H": "afrhvi", "D": "afrhvi", "Shift": "hv",
	"Nat": "gi", "Stretch": "gi", "Shrink": "gi", "StretchOrder": "gi", "ShrinkOrder": "gi",
	"Sign": "hv", "Order": "hv", "Num": "hv", "Den": "hv", "Penalty": "pi", "Sub": "rgki",
}

// may: from where to where a kind's field goes, as long as the others are as they are.
func may(kind int, name string) (least, greatest int) {
	if strings.IndexByte(having[name], letters[kind]) < 0 {
		return 0, 0
	}
	switch name {
	case "Font":
		return 0, 63
	case "Penalty":
		return -1<<31 + 1, 1<<31 - 1
	case "Sign":
		return 0, 2
	case "StretchOrder", "ShrinkOrder", "Order":
		return 0, 3
	case "Num", "Den":
		return 0, 1 << 60
	case "Sub":
		return 0, map[int]int{api.Rule: 3, api.Skip: 20, api.Kern: 2, api.Ins: 254}[kind]
	}
	return -most, most
}

// sound: is it a node?
func sound(n api.Node) bool {
	if n.Kind < 1 || n.Kind > 17 {
		return false
	}
	for _, f := range allFields {
		v := *f.of(&n)
		if v == 0 {
			continue // which each field may be by itself
		}
		if least, greatest := may(n.Kind, f.name); v < least || v > greatest {
			return false
		}
	}
	texts := map[int][2]int{api.Lig: {1, 63}, api.Mark: {0, 1000}, api.Special: {0, 1000}}[n.Kind]
	if len(n.Text) < texts[0] || len(n.Text) > texts[1] || n.Char != 0 && n.Kind > api.Lig {
		return false
	}
	if n.Kind == api.Rule && (n.Sub%2 == 1 && n.W != 0 || n.Sub >= 2 && (n.H != 0 || n.D != 0)) {
		return false
	}
	still := n.Order == 0 && n.Num == 0 && n.Den == 0
	tooSmall := n.Num == 0 || n.Den == 0
	tooMuch := n.Sign == api.Shrinking && n.Order == 0 && n.Num > n.Den
	return n.Sign == api.Still && still || n.Sign != api.Still && !tooSmall && !tooMuch
}

// unbroken: a row's items, with those of Discs' third lists in their place.
func unbroken(items []tree) []tree {
	var l []tree
	for _, x := range items {
		if x.Kind == api.Disc {
			l = append(l, x.lists[2]...)
		} else {
			l = append(l, x)
		}
	}
	return l
}

func of(x tree, kinds string) bool { return strings.ContainsRune(kinds, rune(letters[x.Kind])) }

// totalled: what they come to.
func totalled(items []tree, down bool) (api.Totals, api.Errno) {
	var t api.Totals
	if !down {
		items = unbroken(items)
	}
	for _, x := range items {
		switch {
		case x.Kind == api.Skip:
			t.Nat += x.Glue.Nat
			t.Stretch[x.Glue.StretchOrder] += x.Glue.Stretch
			t.Shrink[x.Glue.ShrinkOrder] += x.Glue.Shrink
		case x.Kind == api.Kern, !down && of(x, "afrhv+-"):
			t.Nat += x.W
		case down && of(x, "rhv"):
			t.Nat += x.H + x.D
		}
	}
	if t.Nat < -most || t.Nat > most {
		return api.Totals{}, api.ErrArith
	}
	return t, api.OK
}

// extended: how far they reach.
func extended(items []tree, down bool) (a, b int, e api.Errno) {
	if down {
		for i, x := range items {
			if of(x, "rhv") {
				a = max(a, x.W+x.Shift)
				if i == len(items)-1 {
					b = x.D
				}
			}
		}
	} else {
		for _, x := range unbroken(items) {
			if of(x, "afrhv") {
				a, b = max(a, x.H-x.Shift), max(b, x.D+x.Shift)
			}
		}
	}
	if a > most || b > most {
		return 0, 0, api.ErrArith
	}
	return a, b, api.OK
}

// shown: a list's lines.
func shown(items []tree, deep, many int) []string {
	if deep == 0 {
		return nil
	}
	var lines []string
	for i, x := range items {
		if i == many {
			return append(lines, "etc.")
		}
		lists := x.lists
		if x.Kind == api.Disc {
			lists = lists[:2]
		}
		var inner []string
		some := 0
		for i, l := range lists {
			some += len(l)
			for _, line := range shown(l, deep-1, many) {
				line = "." + line
				if i == 1 {
					points := len(line) - len(strings.TrimLeft(line, "."))
					line = line[:points] + "|" + line[points:]
				}
				inner = append(inner, line)
			}
		}
		line := described(x)
		if deep == 1 && some > 0 {
			line += " []"
		}
		lines = append(append(lines, line), inner...)
	}
	return lines
}

// seen: a text's bytes.
func seen(text string) string {
	s := ""
	for _, c := range []byte(text) {
		if c < 32 || c > 126 {
			s += fmt.Sprintf("^^%02x", c)
		} else {
			s += string(rune(c))
		}
	}
	return s
}

func described(x tree) string {
	p := scaled.Print
	w, hd := p(x.W), p(x.H)+"+"+p(x.D)
	switch x.Kind {
	case api.Char:
		return fmt.Sprintf("%d %s", x.Font, seen(string([]byte{x.Char})))
	case api.Lig:
		return fmt.Sprintf("%d %s (ligature %s)", x.Font, seen(string([]byte{x.Char})), seen(x.Text))
	case api.Rule:
		if x.Sub == 1 || x.Sub == 3 {
			w = "*"
		}
		if x.Sub == 2 || x.Sub == 3 {
			hd = "*+*"
		}
		return fmt.Sprintf("rule(%s)x%s", hd, w)
	case api.HBox, api.VBox:
		s := fmt.Sprintf("%cbox(%s)x%s", letters[x.Kind], hd, w)
		if x.Sign != 0 {
			s += fmt.Sprintf(", glue set %c %d/%d%s", " +-"[x.Sign], x.Num, x.Den, "filll"[:[4]int{0, 3, 4, 5}[x.Order]])
		}
		if x.Shift != 0 {
			s += ", shifted " + p(x.Shift)
		}
		return s
	case api.Skip:
		return "glue " + glue.Show(x.Glue)
	case api.Kern:
		return "kern " + w + [3]string{2: " (for accent)"}[x.Sub]
	case api.Penalty:
		return fmt.Sprintf("penalty %d", x.Penalty)
	case api.Disc:
		return fmt.Sprintf("discretionary replacing %d", len(x.lists[2]))
	case api.Mark:
		return "mark{" + seen(x.Text) + "}"
	case api.Special:
		return "special{" + seen(x.Text) + "}"
	case api.Ins:
		return fmt.Sprintf("insert %d, natural size %s; split(%s,%s); float cost %d", x.Sub, p(x.H), glue.Show(x.Glue), p(x.D), x.Penalty)
	case api.Adjust:
		return "adjust"
	}
	s := map[int]string{api.MathOn: "mathon", api.MathOff: "mathoff"}[x.Kind]
	if x.W != 0 {
		s += ", surrounded " + w
	}
	return s
}
