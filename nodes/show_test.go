package nodes_test

import (
	"math"
	"slices"
	"strconv"
	"strings"
	"testing"

	"galley/api"
	"galley/nodes"
)

func shows(t *testing.T, name string, l []api.Node, deep, many int, want string, e api.Errno) {
	t.Helper()
	if got, g := nodes.Show(l, deep, many); got != want || g != e {
		t.Errorf("%s: Show(%d nodes, %d, %d) = %d\n%s\nwant %d\n%s", name, len(l), deep, many, g, got, e, want)
	}
}

// lines: of a text, each ended.
func lines(l ...string) string {
	var b strings.Builder
	for _, line := range l {
		b.WriteString(line + "\n")
	}
	return b.String()
}

// The line of each kind.
func TestP507Kinds(t *testing.T) {
	g := api.Glue{Nat: 3 * pt, Stretch: pt, StretchOrder: 2, Shrink: -pt / 2, ShrinkOrder: 0}
	box := func(kind, sign, order, num, den, shift int) api.Node {
		return api.Node{Kind: kind, W: 10 * pt, H: 2 * pt, D: pt / 2, Sign: sign, Order: order, Num: num, Den: den, Shift: shift}
	}
	for _, x := range []struct {
		n    api.Node
		want string
	}{
		{api.Node{Kind: api.Char, Char: 'a'}, "0 a"},
		{api.Node{Kind: api.Char, Font: 63, Char: ' ', W: 5}, "63  "},
		{api.Node{Kind: api.Char, Font: 7, Char: 31}, "7 ^^1f"},
		{api.Node{Kind: api.Char, Char: '~'}, "0 ~"},
		{api.Node{Kind: api.Char, Char: 127}, "0 ^^7f"},
		{api.Node{Kind: api.Char, Char: 0}, "0 ^^00"},
		{api.Node{Kind: api.Char, Char: 255}, "0 ^^ff"},
		{api.Node{Kind: api.Char, Char: '^'}, "0 ^"},
		{api.Node{Kind: api.Lig, Font: 2, Char: 12, Text: "fi"}, "2 ^^0c (ligature fi)"},
		{api.Node{Kind: api.Lig, Char: 'A', Text: "\x00\xe4)\n"}, "0 A (ligature ^^00^^e4)^^0a)"},
		{api.Node{Kind: api.Rule, W: 3 * pt, H: pt / 2, D: -pt}, "rule(0.5+-1.0)x3.0"},
		{api.Node{Kind: api.Rule, Sub: 1, H: pt / 2, D: -pt}, "rule(0.5+-1.0)x*"},
		{api.Node{Kind: api.Rule, Sub: 2, W: 3 * pt}, "rule(*+*)x3.0"},
		{api.Node{Kind: api.Rule, Sub: 3}, "rule(*+*)x*"},
		{api.Node{Kind: api.Rule}, "rule(0.0+0.0)x0.0"},
		{box(api.HBox, 0, 0, 0, 0, 0), "hbox(2.0+0.5)x10.0"},
		{box(api.VBox, 0, 0, 0, 0, 0), "vbox(2.0+0.5)x10.0"},
		{box(api.HBox, 1, 0, 3, 4, 0), "hbox(2.0+0.5)x10.0, glue set + 3/4"},
		{box(api.VBox, 1, 1, 1<<60, 1, 0), "vbox(2.0+0.5)x10.0, glue set + 1152921504606846976/1fil"},
		{box(api.HBox, 2, 2, 4, 3, 0), "hbox(2.0+0.5)x10.0, glue set - 4/3fill"},
		{box(api.HBox, 2, 3, 4, 3, pt), "hbox(2.0+0.5)x10.0, glue set - 4/3filll, shifted 1.0"},
		{box(api.HBox, 2, 0, 6, 8, -pt), "hbox(2.0+0.5)x10.0, glue set - 6/8, shifted -1.0"},
		{box(api.VBox, 0, 0, 0, 0, 1), "vbox(2.0+0.5)x10.0, shifted 0.00002"},
		{api.Node{Kind: api.HBox, W: most, H: -most}, "hbox(-16383.99998+0.0)x16383.99998"},
		{api.Node{Kind: api.Skip}, "glue 0.0"},
		{api.Node{Kind: api.Skip, Glue: g, Sub: 20}, "glue 3.0 plus 1.0fill minus -0.5"},
		{api.Node{Kind: api.Skip, Glue: api.Glue{Nat: pt, Stretch: 2 * pt}}, "glue 1.0 plus 2.0"},
		{api.Node{Kind: api.Kern, W: -pt}, "kern -1.0"},
		{api.Node{Kind: api.Kern, W: pt, Sub: 1}, "kern 1.0"},
		{api.Node{Kind: api.Kern, W: pt, Sub: 2}, "kern 1.0 (for accent)"},
		{api.Node{Kind: api.Penalty, Penalty: 10000}, "penalty 10000"},
		{api.Node{Kind: api.Penalty, Penalty: -1<<31 + 1}, "penalty -2147483647"},
		{api.Node{Kind: api.Disc}, "discretionary replacing 0"},
		{api.Node{Kind: api.Mark}, "mark{}"},
		{api.Node{Kind: api.Mark, Text: "{a\x80}"}, "mark{{a^^80}}"},
		{api.Node{Kind: api.Special, Text: "ps:\t1"}, "special{ps:^^091}"},
		{api.Node{Kind: api.Ins, Sub: 254, H: 5 * pt, D: pt / 2, Penalty: -7, Glue: g},
			"insert 254, natural size 5.0; split(3.0 plus 1.0fill minus -0.5,0.5); float cost -7"},
		{api.Node{Kind: api.Ins}, "insert 0, natural size 0.0; split(0.0,0.0); float cost 0"},
		{api.Node{Kind: api.MathOn}, "mathon"},
		{api.Node{Kind: api.MathOff}, "mathoff"},
		{api.Node{Kind: api.MathOn, W: pt}, "mathon, surrounded 1.0"},
		{api.Node{Kind: api.MathOff, W: -pt / 2}, "mathoff, surrounded -0.5"},
		{api.Node{Kind: api.Adjust}, "adjust"},
	} {
		for _, deep := range []int{1, 2, math.MaxInt} {
			shows(t, "a kind", placed(x.n), deep, 1, lines(x.want), api.OK)
			shows(t, "a kind", placed(x.n), deep, math.MaxInt, lines(x.want), api.OK)
		}
	}
}

// Each byte, of a character and of each text.
func TestP507Bytes(t *testing.T) {
	for c := range 256 {
		seen := string([]byte{byte(c)})
		if c < 32 || c > 126 {
			seen = "^^" + strconv.FormatInt(int64(256+c), 16)[1:]
		}
		text := string([]byte{byte(c)})
		for _, x := range []struct {
			n    api.Node
			want string
		}{
			{api.Node{Kind: api.Char, Char: byte(c)}, "0 " + seen},
			{api.Node{Kind: api.Lig, Char: byte(c), Text: text + text}, "0 " + seen + " (ligature " + seen + seen + ")"},
			{api.Node{Kind: api.Mark, Text: text}, "mark{" + seen + "}"},
			{api.Node{Kind: api.Special, Text: text + "x"}, "special{" + seen + "x}"},
		} {
			shows(t, "a byte", []api.Node{x.n}, 1, 1, lines(x.want), api.OK)
		}
	}
}

const (
	hbox = "hbox(8.0+4.0)x10.0"
	vbox = "vbox(6.0+5.0)x20.0, shifted -1.0"
)

// So deep as deep: what is not shown is told, if there is something.
func TestP507Deep(t *testing.T) {
	l := list("ahva.k.h.a")
	shows(t, "all", l, 3, 9, lines("0 a", hbox, "."+vbox, "..0 a", ".kern 8.0", hbox, "0 a"), api.OK)
	shows(t, "far", l, math.MaxInt, 9, lines("0 a", hbox, "."+vbox, "..0 a", ".kern 8.0", hbox, "0 a"), api.OK)
	shows(t, "2", l, 2, 9, lines("0 a", hbox, "."+vbox+" []", ".kern 8.0", hbox, "0 a"), api.OK)
	shows(t, "1", l, 1, 9, lines("0 a", hbox+" []", hbox, "0 a"), api.OK)
	shows(t, "0", l, 0, 9, "", api.OK)
	shows(t, "adjust and insert", list("jaij..."), 1, 9, lines("adjust []"), api.OK)
	shows(t, "adjust and insert", list("jaij..."), 2, 9, lines("adjust", ".0 a", ".insert 254, natural size 30.0; split(0.0,2.0); float cost 0 []"), api.OK)
	deepest := nested(plain(api.Adjust), 39, plain(api.Char))
	var want []string
	for deep := range 39 {
		shows(t, "deepest", deepest, deep+1, 1, lines(want...)+strings.Repeat(".", deep)+"adjust []\n", api.OK)
		want = append(want, strings.Repeat(".", deep)+"adjust")
	}
	want = append(want, strings.Repeat(".", 39)+"0 a")
	shows(t, "deepest", deepest, 40, 1, lines(want...), api.OK)
}

// So many as many, in each list.
func TestP507Many(t *testing.T) {
	l := list("haka.aa")
	shows(t, "4", l, 9, 4, lines(hbox, ".0 a", ".kern 8.0", ".0 a", "0 a", "0 a"), api.OK)
	shows(t, "3", l, 9, 3, lines(hbox, ".0 a", ".kern 8.0", ".0 a", "0 a", "0 a"), api.OK)
	shows(t, "2", l, 9, 2, lines(hbox, ".0 a", ".kern 8.0", ".etc.", "0 a", "etc."), api.OK)
	shows(t, "1", l, 9, 1, lines(hbox, ".0 a", ".etc.", "etc."), api.OK)
	shows(t, "0", l, 9, 0, lines("etc."), api.OK)
	shows(t, "1 and 1", l, 1, 1, lines(hbox+" []", "etc."), api.OK)
	shows(t, "0 and 0", l, 0, 0, "", api.OK)
	shows(t, "0 and 1", l, 0, 1, "", api.OK)
	shows(t, "1 and 0", l, 1, 0, lines("etc."), api.OK)
	shows(t, "one and 0", list("a"), 1, 0, lines("etc."), api.OK)
	shows(t, "one and 1", list("a"), 1, 1, lines("0 a"), api.OK)
	shows(t, "long", slices.Repeat(list("k"), 2000), 1, 1999, strings.Repeat("kern 8.0\n", 1999)+"etc.\n", api.OK)
	shows(t, "long", slices.Repeat(list("k"), 2000), 1, 2000, strings.Repeat("kern 8.0\n", 2000), api.OK)
	for _, l := range [][]api.Node{nil, {}} {
		for _, deep := range []int{0, 1, math.MaxInt} {
			for _, many := range []int{0, 1, math.MaxInt} {
				shows(t, "empty", l, deep, many, "", api.OK)
			}
		}
	}
}

// A Disc: its first two lists, the second one with bars behind the points; how many items the third one has.
func TestP507Disc(t *testing.T) {
	l := list("dak|ha.|rh.a.")
	shows(t, "all", l, 9, 9, lines("discretionary replacing 3", ".0 a", ".kern 8.0", ".|"+hbox, "..|0 a"), api.OK)
	shows(t, "2 deep", l, 2, 9, lines("discretionary replacing 3", ".0 a", ".kern 8.0", ".|"+hbox+" []"), api.OK)
	shows(t, "1 deep", l, 1, 9, lines("discretionary replacing 3 []"), api.OK)
	shows(t, "many 1", l, 9, 1, lines("discretionary replacing 3", ".0 a", ".etc.", ".|"+hbox, "..|0 a"), api.OK)
	shows(t, "the third list alone", list("d||ra."), 1, 9, lines("discretionary replacing 2"), api.OK)
	shows(t, "the first list alone", list("da||."), 1, 9, lines("discretionary replacing 0 []"), api.OK)
	shows(t, "the second list alone", list("d|a|."), 1, 9, lines("discretionary replacing 0 []"), api.OK)
	shows(t, "a long second list", list("d|aaa|."), 2, 1, lines("discretionary replacing 0", ".|0 a", ".|etc."), api.OK)
	shows(t, "both lists long", list("daaa|kkk|a."), 2, 2,
		lines("discretionary replacing 1", ".0 a", ".0 a", ".etc.", ".|kern 8.0", ".|kern 8.0", ".|etc."), api.OK)
	shows(t, "within a box", list("hd|a|.."), 3, 2, lines(hbox, ".discretionary replacing 0", "..|0 a"), api.OK)
	shows(t, "within a second list", list("d|hda|k|a..|."), 9, 9,
		lines("discretionary replacing 0", ".|"+hbox, "..|discretionary replacing 1", "...|0 a", "...||kern 8.0"), api.OK)
	shows(t, "within a second list, not shown", list("d|hda|k|a..|."), 3, 9,
		lines("discretionary replacing 0", ".|"+hbox, "..|discretionary replacing 1 []"), api.OK)
	shows(t, "within a first list", list("dhd|k|..||."), 9, 9,
		lines("discretionary replacing 0", "."+hbox, "..discretionary replacing 0", "...|kern 8.0"), api.OK)
	shows(t, "behind a Disc", list("d|a|.a"), 9, 9, lines("discretionary replacing 0", ".|0 a", "0 a"), api.OK)
}

// The list's error comes ahead of ErrRange.
func TestP507Wrong(t *testing.T) {
	for e, lists := range wrongLists() {
		for _, l := range lists {
			shows(t, "wrong", l, 1, 1, "", e)
			shows(t, "wrong", l, 0, 0, "", e)
			shows(t, "wrong", l, -1, -1, "", e)
		}
	}
	for _, l := range [][]api.Node{nil, list("a"), list("ha.")} {
		for _, n := range []int{-1, -2, math.MinInt} {
			shows(t, "below 0", l, n, 1, "", api.ErrRange)
			shows(t, "below 0", l, 1, n, "", api.ErrRange)
			shows(t, "below 0", l, 0, n, "", api.ErrRange)
			shows(t, "below 0", l, n, 0, "", api.ErrRange)
			shows(t, "below 0", l, n, n, "", api.ErrRange)
		}
	}
}

// What trees say, of many lists, so deep and so many.
func TestP507Random(t *testing.T) {
	r := &random{507}
	for _, l := range r.lists(2000) {
		trees, e := grown(l)
		for _, deep := range []int{0, 1, 2, 3, 5, 100} {
			for _, many := range []int{0, 1, 2, 5, 100} {
				want := ""
				if e == api.OK {
					want = lines(shown(trees, deep, many)...)
				}
				shows(t, told(l), l, deep, many, want, e)
			}
		}
	}
}
