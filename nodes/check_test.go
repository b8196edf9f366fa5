package nodes_test

import (
	"math"
	"slices"
	"strings"
	"testing"

	"galley/api"
	"galley/nodes"
)

// placed: a list in which a node stands where its kind may stand.
func placed(n api.Node) []api.Node {
	switch n.Kind {
	case api.HBox, api.VBox, api.Ins, api.Adjust:
		return around(n)
	case api.Disc:
		return around(n, list("||")...)
	case api.End:
		return []api.Node{plain(api.HBox), n}
	case api.Sep:
		return []api.Node{plain(api.Disc), plain(api.Sep), n, plain(api.End)}
	}
	return []api.Node{n}
}

// base: a node, and from where to where its fields go, as long as the others stay; those not named are 0.
type base struct {
	name string
	node api.Node
	may  map[string][2]int
	text [2]int
}

func bases() []base {
	sizes := func(names string, more map[string][2]int) map[string][2]int {
		may := map[string][2]int{}
		for name := range strings.FieldsSeq(names) {
			may[name] = [2]int{-most, most}
		}
		for name, bound := range more {
			may[name] = bound
		}
		return may
	}
	price := [2]int{-1<<31 + 1, 1<<31 - 1}
	order, fraction := [2]int{0, 3}, [2]int{1, 1 << 60}
	l := []base{
		{"Char", api.Node{Kind: api.Char}, sizes("W H D", map[string][2]int{"Font": {0, 63}}), [2]int{}},
		{"Lig", api.Node{Kind: api.Lig, Text: "fi"}, sizes("W H D", map[string][2]int{"Font": {0, 63}}), [2]int{1, 63}},
		{"Rule", api.Node{Kind: api.Rule}, sizes("W H D", map[string][2]int{"Sub": {0, 3}}), [2]int{}},
		{"Rule 1", api.Node{Kind: api.Rule, Sub: 1}, sizes("H D", map[string][2]int{"Sub": {0, 3}}), [2]int{}},
		{"Rule 2", api.Node{Kind: api.Rule, Sub: 2}, sizes("W", map[string][2]int{"Sub": {0, 3}}), [2]int{}},
		{"Rule 3", api.Node{Kind: api.Rule, Sub: 3}, map[string][2]int{"Sub": {0, 3}}, [2]int{}},
		{"Rule with H", api.Node{Kind: api.Rule, H: 1}, sizes("W H D", map[string][2]int{"Sub": {0, 1}}), [2]int{}},
		{"Rule with D", api.Node{Kind: api.Rule, D: -1}, sizes("W H D", map[string][2]int{"Sub": {0, 1}}), [2]int{}},
		{"Rule with W and D", api.Node{Kind: api.Rule, W: 1, D: 1}, sizes("W H D", map[string][2]int{"Sub": {0, 0}}), [2]int{}},
		{"Skip", api.Node{Kind: api.Skip}, sizes("Nat Stretch Shrink", map[string][2]int{"StretchOrder": order, "ShrinkOrder": order, "Sub": {0, 20}}), [2]int{}},
		{"Kern", api.Node{Kind: api.Kern}, sizes("W", map[string][2]int{"Sub": {0, 2}}), [2]int{}},
		{"Penalty", api.Node{Kind: api.Penalty}, map[string][2]int{"Penalty": price}, [2]int{}},
		{"Mark", api.Node{Kind: api.Mark}, nil, [2]int{0, 1000}},
		{"Special", api.Node{Kind: api.Special}, nil, [2]int{0, 1000}},
		{"Ins", api.Node{Kind: api.Ins}, sizes("H D Nat Stretch Shrink", map[string][2]int{"Penalty": price, "StretchOrder": order, "ShrinkOrder": order, "Sub": {0, 254}}), [2]int{}},
		{"MathOn", api.Node{Kind: api.MathOn}, sizes("W", nil), [2]int{}},
		{"MathOff", api.Node{Kind: api.MathOff}, sizes("W", nil), [2]int{}},
	}
	for name, kind := range map[string]int{"End": api.End, "Disc": api.Disc, "Sep": api.Sep, "Adjust": api.Adjust} {
		l = append(l, base{name, api.Node{Kind: kind}, nil, [2]int{}})
	}
	for name, kind := range map[string]int{"HBox": api.HBox, "VBox": api.VBox} {
		add := func(how string, n api.Node, more map[string][2]int) {
			n.Kind = kind
			l = append(l, base{name + " " + how, n, sizes("W H D Shift", more), [2]int{}})
		}
		sign := [2]int{1, 2}
		add("still", api.Node{}, nil)
		add("stretching", api.Node{Sign: 1, Num: 5, Den: 7},
			map[string][2]int{"Sign": sign, "Order": order, "Num": fraction, "Den": fraction})
		add("stretching far", api.Node{Sign: 1, Num: 7, Den: 5},
			map[string][2]int{"Sign": {1, 1}, "Order": order, "Num": fraction, "Den": fraction})
		add("shrinking", api.Node{Sign: 2, Num: 5, Den: 7},
			map[string][2]int{"Sign": sign, "Order": order, "Num": {1, 7}, "Den": {5, 1 << 60}})
		add("shrinking all", api.Node{Sign: 2, Num: 7, Den: 7},
			map[string][2]int{"Sign": sign, "Order": order, "Num": {1, 7}, "Den": {7, 1 << 60}})
		add("shrinking far", api.Node{Sign: 2, Order: 1, Num: 7, Den: 5},
			map[string][2]int{"Sign": sign, "Order": {1, 3}, "Num": fraction, "Den": fraction})
	}
	return l
}

// Each kind of node with each of its fields at its least and greatest value and beyond; all others must be zero.
func TestP502Fields(t *testing.T) {
	for _, b := range bases() {
		checks(t, b.name, placed(b.node), api.OK)
		for _, f := range fields() {
			bound := b.may[f.name]
			for _, v := range []int{
				bound[0], bound[0] - 1, bound[0] - 2, bound[1], bound[1] + 1, bound[1] + 2, -1, 0, 1,
				bound[0] + 1<<32, bound[1] - 1<<32, 1 << 62, -1 << 62, math.MaxInt, math.MinInt,
			} {
				n, want := b.node, api.ErrList
				*f.of(&n) = v
				if v >= bound[0] && v <= bound[1] {
					want = api.OK
				}
				checks(t, b.name+" "+f.name, placed(n), want)
			}
		}
	}
}

func TestP502Texts(t *testing.T) {
	for _, b := range bases() {
		for _, size := range []int{0, 1, 2, 62, 63, 64, 65, 999, 1000, 1001, 5000} {
			n, want := b.node, api.ErrList
			n.Text = strings.Repeat("\xff", size)
			if size >= b.text[0] && size <= b.text[1] {
				want = api.OK
			}
			checks(t, b.name+" text", placed(n), want)
		}
		for c := range 256 {
			n, want := b.node, api.ErrList
			n.Char = byte(c)
			if c == 0 || n.Kind == api.Char || n.Kind == api.Lig {
				want = api.OK
			}
			checks(t, b.name+" char", placed(n), want)
		}
	}
}

// Two fields at a time: what one allows the other one may take away.
func TestP502Boxes(t *testing.T) {
	for _, kind := range []int{api.HBox, api.VBox} {
		for sign := -1; sign <= 3; sign++ {
			for order := -1; order <= 4; order++ {
				for _, num := range []int{-1, 0, 1, 2, 3, 1 << 60, 1<<60 + 1} {
					for _, den := range []int{-1, 0, 1, 2, 3, 1 << 60, 1<<60 + 1} {
						right := sign == 0 && order == 0 && num == 0 && den == 0
						if sign == 1 || sign == 2 {
							right = order >= 0 && order <= 3 && num >= 1 && num <= 1<<60 && den >= 1 && den <= 1<<60
							right = right && (sign == 1 || order > 0 || num <= den)
						}
						want := api.ErrList
						if right {
							want = api.OK
						}
						n := api.Node{Kind: kind, Sign: sign, Order: order, Num: num, Den: den}
						checks(t, "box", around(n), want)
					}
				}
			}
		}
	}
}

func TestP502Kinds(t *testing.T) {
	for kind := 1; kind <= 17; kind++ {
		checks(t, "kind", placed(plain(kind)), api.OK)
	}
	for _, kind := range []int{0, -1, 18, 19, 256 + api.Char, 1<<32 + api.Char, math.MaxInt, math.MinInt} {
		n := plain(api.Char)
		n.Kind = kind
		checks(t, "kind", []api.Node{n}, api.ErrList)
		checks(t, "kind alone", []api.Node{{Kind: kind}}, api.ErrList)
		checks(t, "kind within", around(plain(api.HBox), n), api.ErrList)
	}
}

// A node that is none, wherever it stands.
func TestP502Where(t *testing.T) {
	far := plain(api.Char)
	far.D = -most - 1
	for _, text := range []string{"a", "aaa", "ha.", "hha..", "ja.", "via..", "da|a|a.", "dha.|ha.|ha..", "gkpms+-rfa"} {
		l := list(text)
		checks(t, text, l, api.OK)
		for at, n := range l {
			if n.Kind == api.Char {
				wrong := slices.Clone(l)
				wrong[at] = far
				checks(t, text, wrong, api.ErrList)
			}
		}
	}
}

func TestP502Lists(t *testing.T) {
	checks(t, "nil", nil, api.OK)
	checks(t, "empty", []api.Node{}, api.OK)
	right := []string{
		"h.", "v.", "i.", "j.", "hv..", "h.v.", "ha.g", "aha.a", "hhhh....", "d||.", "da|a|a.", "dhd||..|v.|kfr.",
		"dha.||.", "afrgkpms+-", "hafrgkpms+-hvd||.ij.....", "jia.g.", "dhji...||.", "dhg.|vp.|hm..",
	}
	for _, text := range right {
		checks(t, text, list(text), api.OK)
	}
	wrong := []string{
		".", "|", "h", "d", "j", "i", "v", "a.", "h..", ".h", "ha", "aha", "hv.", "h|.", "|.", "h||.", "a|a", "j|.",
		"d.", "d|.", "d|||.", "d||", "d||..", "||.", "d|h|.|.", "dh|..|.", "da|a.|a.", "dd||.||.", "hd|.|.", "d|.|",
	}
	for _, text := range wrong {
		checks(t, text, list(text), api.ErrList)
	}
}

// What may stand in a Disc's lists, and what may not; within boxes that stand there all may.
func TestP502Discs(t *testing.T) {
	for kind := 1; kind <= 17; kind++ {
		if kind == api.End || kind == api.Sep {
			continue
		}
		item := placed(plain(kind))
		want := api.ErrList
		if strings.ContainsRune("afkrhv", rune(letters[kind])) {
			want = api.OK
		}
		a := list("a")
		for _, l := range [][]api.Node{item, slices.Concat(a, item), slices.Concat(item, a), slices.Concat(item, item)} {
			checks(t, "first list", disc(l, nil, nil), want)
			checks(t, "second list", disc(nil, l, nil), want)
			checks(t, "third list", disc(nil, nil, l), want)
			checks(t, "all lists", disc(l, l, l), want)
			boxed := around(plain(api.VBox), l...)
			checks(t, "boxed", disc(boxed, boxed, boxed), api.OK)
			checks(t, "a Disc around", around(plain(api.HBox), disc(l, l, l)...), want)
		}
	}
}

// All short texts of some kinds, held against the chapter's words.
func TestP502Short(t *testing.T) {
	const kinds = "ahd|.g"
	texts := []string{""}
	for _, text := range texts {
		checks(t, text, list(text), plainly(list(text)))
	}
	for range 6 {
		var longer []string
		for _, text := range texts {
			for _, c := range kinds {
				longer = append(longer, text+string(c))
			}
		}
		texts = longer
		for _, text := range texts {
			checks(t, text, list(text), plainly(list(text)))
		}
	}
}

func plainly(l []api.Node) api.Errno {
	_, e := grown(l)
	return e
}

func TestP502Random(t *testing.T) {
	r, wrong := &random{502}, 0
	for _, l := range r.lists(6000) {
		want := plainly(l)
		if want != api.OK {
			wrong++
		}
		checks(t, told(l), l, want)
	}
	if wrong < 500 {
		t.Errorf("only %d lists were wrong", wrong)
	}
}

func TestP502Size(t *testing.T) {
	for kind := 1; kind <= 17; kind++ {
		item := placed(plain(kind))
		full := slices.Repeat(item, api.MaxNodes/len(item))
		checks(t, "full", full, api.OK)
		checks(t, "one more", slices.Concat(full, list("a")), api.ErrSize)
		room := len(item) * ((api.MaxNodes - 2) / len(item))
		checks(t, "within", around(plain(api.HBox), full[:room]...), api.OK)
		checks(t, "too many within", around(plain(api.HBox), full...), api.ErrSize)
	}
	// Too many come first, whatever they are.
	for _, n := range []api.Node{{}, {Kind: api.End}, {Kind: api.HBox}, {Kind: 99}} {
		checks(t, "no list", slices.Repeat([]api.Node{n}, api.MaxNodes), api.ErrList)
		checks(t, "no list, too long", slices.Repeat([]api.Node{n}, api.MaxNodes+1), api.ErrSize)
	}
	checks(t, "far too many", make([]api.Node, 1<<20), api.ErrSize)
}

func TestP502Deep(t *testing.T) {
	a := plain(api.Char)
	for _, kind := range []int{api.HBox, api.VBox, api.Ins, api.Adjust} {
		n := plain(kind)
		for _, times := range []int{1, 37, 38, 39, 40, 41, 42, 500, 990} {
			// Of what is empty the depth is 0, so it is one less deep than what has an item.
			checks(t, "empty", nested(n, times), deepIf(times > 40))
			checks(t, "with an item", nested(n, times, a), deepIf(times > 39))
			checks(t, "with a Disc", nested(n, times, list("d||.")...), deepIf(times > 39))
			checks(t, "with a full Disc", nested(n, times, list("d||a.")...), deepIf(times > 38))
			checks(t, "with its first list", nested(n, times, list("da||.")...), deepIf(times > 38))
			checks(t, "with its second list", nested(n, times, list("d|a|.")...), deepIf(times > 38))
			checks(t, "with a box in a Disc", nested(n, times, list("d|ha.|.")...), deepIf(times > 37))
			checks(t, "behind", slices.Concat(list("a"), nested(n, times, a)), deepIf(times > 39))
			checks(t, "ahead", slices.Concat(nested(n, times, a), list("aha.")), deepIf(times > 39))
			checks(t, "side by side", slices.Concat(nested(n, times), nested(n, times)), sizeOrDeep(4*times, times > 40))
		}
	}
	// What is no list is that first, however deep it is.
	n := plain(api.HBox)
	checks(t, "without an End", nested(n, 60, a)[:120], api.ErrList)
	checks(t, "a wrong one in the midst", nested(n, 60, api.Node{}), api.ErrList)
	checks(t, "a wrong one behind", slices.Concat(nested(n, 60), list("|")), api.ErrList)
	checks(t, "too many", nested(n, 1001), api.ErrSize)
	checks(t, "as deep as there are nodes", nested(n, 1000), api.ErrDeep)
	checks(t, "Discs and boxes", nestedDiscs(19, "a"), api.OK)
	checks(t, "Discs and boxes, empty", nestedDiscs(20, ""), api.OK)
	checks(t, "Discs and boxes, too deep", nestedDiscs(20, "a"), api.ErrDeep)
}

// nestedDiscs: a box in a Disc, in a box, and so on.
func nestedDiscs(times int, within string) []api.Node {
	return list(strings.Repeat("d|h", times) + within + strings.Repeat(".|.", times))
}

func deepIf(deep bool) api.Errno {
	if deep {
		return api.ErrDeep
	}
	return api.OK
}

func sizeOrDeep(size int, deep bool) api.Errno {
	if size > api.MaxNodes {
		return api.ErrSize
	}
	return deepIf(deep)
}

// The chapter's examples.
func TestP502Examples(t *testing.T) {
	checks(t, "End", list("."), api.ErrList)
	checks(t, "Disc Sep Sep End", list("d||."), api.OK)
	checks(t, "Disc End", list("d."), api.ErrList)
	far := plain(api.Char)
	far.W = 1 << 30
	checks(t, "far", []api.Node{far}, api.ErrList)
	if n, e := nodes.Item(list("ha."), 0); n != 3 || e != api.OK {
		t.Errorf("Item = %d, %d", n, e)
	}
}
