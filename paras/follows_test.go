package paras_test

import (
	"slices"
	"testing"

	"galley/api"
	"galley/breaks"
	"galley/hyph"
	"galley/nodes"
	"galley/pack"
	"galley/paras"
	"galley/words"
)

// ways: each list of breaks that Cost takes, told by it, of a paragraph with few of them.
func ways(l []api.Node, p api.Params, tolerance, extra int) [][]breaks.Break {
	var all [][]breaks.Break
	legal, _, _ := breaks.Legal(l, p)
	for set := range 1 << len(legal) {
		var at []int
		for i, here := range legal {
			if set>>i&1 == 1 {
				at = append(at, here)
			}
		}
		if told, e := breaks.Cost(l, p, tolerance, extra, at); e == api.OK {
			all = append(all, told)
		}
	}
	return all
}

func isBad(b breaks.Break) bool { return b.Bad }

// without: has one of these no Bad line?
func without(ways [][]breaks.Break) bool {
	return slices.ContainsFunc(ways, func(w []breaks.Break) bool { return !slices.ContainsFunc(w, isBad) })
}

// few: a paragraph with few breaks, hyphened or not, and all that it is tried with.
func (r *random) few() (l, hyphened []api.Node, p api.Params, s words.Setup, h *hyph.Hyph) {
	for {
		l, p, s, h = r.paragraph(4), r.params(), r.setup(), r.hyph()
		p.Tolerance = max(0, p.Tolerance)
		hyphened, _ = words.Hyphenate(l, s, h)
		if at, _, e := breaks.Legal(hyphened, p); e == api.OK && len(at) <= 9 {
			return l, hyphened, p, s, h
		}
	}
}

// P10.6: the first pass in which there is a way without Bad lines; in the last one there is always some way.
func TestP106(t *testing.T) {
	r := &random{106}
	var passes [4]int
	badly := 0
	for range 1200 {
		l, hyphened, p, s, h := r.few()
		pass, tolerance := 2, min(p.Tolerance, most)
		ok := p.Pretolerance >= 0 && without(ways(l, p, min(p.Pretolerance, most), 0))
		switch {
		case ok:
			pass = 1
		case p.Emergency > 0 && !without(ways(hyphened, p, tolerance, 0)):
			pass = 3
		}
		got, e := paras.Try(l, p, s, h)
		if got.Pass != pass || e != api.OK {
			t.Fatalf("Try of %s, %v: %s, %d; want pass %d", told(l), p, choiceText(got), e, pass)
		}
		passes[pass]++
		if pass > 1 && !without(ways(hyphened, p, tolerance, max(0, p.Emergency))) {
			badly++
		}
	}
	if min(passes[1], passes[2], passes[3], badly) < 100 {
		t.Errorf("passes %v, %d with Bad lines", passes, badly)
	}
}

// P10.6: without patterns and exceptions the List is that of the paragraph, in each pass.
func TestP106Plain(t *testing.T) {
	r := &random{1060}
	var passes [4]int
	for range 1500 {
		l, p, s := r.paragraph(8), r.params(), r.setup()
		c, e := paras.Try(l, p, s, hyph.New())
		if e == api.OK && !slices.Equal(c.List, l) {
			t.Fatalf("Try of %s, %v: %s", told(l), p, choiceText(c))
		}
		passes[c.Pass]++
	}
	if min(passes[1], passes[2], passes[3]) < 100 {
		t.Errorf("passes %v", passes)
	}
}

// asked: the tolerance and the extra stretch of a pass.
func asked(p api.Params, pass int) (tolerance, extra int) {
	switch pass {
	case 1:
		return min(p.Pretolerance, most), 0
	case 2:
		return min(p.Tolerance, most), 0
	}
	return min(p.Tolerance, most), p.Emergency
}

// costly: what a way is held against another by: Over, Bad lines, Demerits.
func costly(way []breaks.Break) [3]int {
	var sums [3]int
	for _, b := range way {
		sums[0] += b.Over
		if b.Bad {
			sums[1]++
		}
		sums[2] += b.Demerits
	}
	return sums
}

// P10.7: no way to break the List is better than the chosen one, with that pass's tolerance and extra.
func TestP107(t *testing.T) {
	r := &random{107}
	var passes [4]int
	for range 1200 {
		l, _, p, s, h := r.few()
		p.Looseness = 0
		c, e := paras.Try(l, p, s, h)
		if e != api.OK {
			t.Fatalf("Try of %s, %v: %d", told(l), p, e)
		}
		tolerance, extra := asked(p, c.Pass)
		chosen, e := breaks.Cost(c.List, p, tolerance, extra, c.At)
		least := costly(chosen)
		if e != api.OK || least[2] != c.Demerits {
			t.Fatalf("Try of %s, %v: %s; Cost of it: %v, %d", told(l), p, choiceText(c), chosen, e)
		}
		for _, way := range ways(c.List, p, tolerance, extra) {
			if now := costly(way); slices.Compare(now[:], least[:]) < 0 {
				t.Fatalf("Try of %s, %v: %s; %v is better", told(l), p, choiceText(c), way)
			}
		}
		passes[c.Pass]++
	}
	if min(passes[1], passes[2], passes[3]) < 100 {
		t.Errorf("passes %v", passes)
	}
}

// P10.7: of long paragraphs, too, and with looseness: what Choose says.
func TestP107Choose(t *testing.T) {
	r := &random{1070}
	loose := 0
	for range 600 {
		l, p, s, h := r.paragraph(40), r.params(), r.setup(), r.hyph()
		c, e := paras.Try(l, p, s, h)
		if e != api.OK {
			continue
		}
		tolerance, extra := asked(p, c.Pass)
		chosen, by, e := breaks.Choose(c.List, p, tolerance, extra, true)
		var at []int
		for _, b := range chosen {
			at = append(at, b.At)
		}
		if e != api.OK || by != c.Loose || !slices.Equal(at, c.At) {
			t.Fatalf("Try of %s, %v: %s; Choose: %v, %d, %d", told(l), p, choiceText(c), at, by, e)
		}
		if by != 0 {
			loose++
		}
	}
	if loose < 10 {
		t.Errorf("only %d with looseness", loose)
	}
}

// settings: paragraphs that were set, each with what came of it.
func settings(seed uint64, many, long int, visit func(x setting, c paras.Choice, r paras.Result)) int {
	r := &random{seed}
	count := 0
	for range many {
		x := r.setting(long)
		if c, res, e := x.set(); e == api.OK {
			count++
			visit(x, c, res)
		}
	}
	return count
}

// end: where the last item of a box ends, with its glue set.
func end(t *testing.T, l []api.Node) int {
	t.Helper()
	inside, _ := nodes.Inside(l, 0)
	marked, e := nodes.Wrap(l[0], join(inside, one(api.Node{Kind: api.Special})))
	at, e2 := pack.Places(marked, 0)
	if e != api.OK || e2 != api.OK {
		t.Fatalf("no places: %d, %d", e, e2)
	}
	return at[len(at)-1]
}

// P10.8: as many boxes as places, each as wide as Width says; and that is where its contents end.
func TestP108(t *testing.T) {
	set, full := 0, 0
	count := settings(108, 3000, 10, func(x setting, c paras.Choice, r paras.Result) {
		if len(r.Lines) != len(c.At) || len(r.Bad) != len(c.At) || len(r.Over) != len(c.At) {
			t.Fatalf("%s; %s", choiceText(c), resultText(r))
		}
		for n, at := range r.Lines {
			behind, e := nodes.Item(r.List, at)
			if e != api.OK || r.List[at].Kind != api.HBox {
				t.Fatalf("%s: no box", resultText(r))
			}
			width, indent, _ := breaks.Width(x.p, n+1)
			line := r.List[at:behind]
			if line[0].W != width || line[0].Shift != indent {
				t.Fatalf("%s: line %d: %v; want %d, %d", resultText(r), n, line[0], width, indent)
			}
			switch {
			case line[0].Sign == api.Still:
				continue
			case r.Over[n] > 0:
				full++
			default:
				set++
			}
			if got := end(t, line); got != width+r.Over[n] {
				t.Fatalf("%s: line %d ends at %d; want %d", resultText(r), n, got, width+r.Over[n])
			}
		}
	})
	if count < 2000 || set < 3000 || full < 500 {
		t.Errorf("only %d paragraphs; %d lines, %d too full", count, set, full)
	}
}

// remaining: a list, but for what falls away at breaks, and with Discs there as their first and second lists.
func remaining(l []api.Node, at []int) []api.Node {
	var left []api.Node
	here, falling := 0, false
	for _, item := range items(l) {
		isBreak := slices.Contains(at, here)
		here += len(item)
		switch {
		case isBreak && item[0].Kind == api.Disc:
			first, second, _, _ := nodes.Parts(item, 0)
			left = append(append(left, first...), second...)
			falling = len(second) == 0
		case isBreak:
			falling = true
		case falling && plainFalls(item[0]):
		default:
			falling = false
			left = append(left, item...)
		}
	}
	return left
}

// P10.9: the lines' Contents, one behind the other, are the List.
func TestP109(t *testing.T) {
	discs := 0
	count := settings(109, 1500, 12, func(x setting, c paras.Choice, r paras.Result) {
		var all []api.Node
		from := -1
		for _, to := range c.At {
			in, e := paras.Contents(c.List, x.p, from, to)
			if e != api.OK {
				t.Fatalf("Contents of %s: %d", told(c.List), e)
			}
			if x.p.Left != (api.Glue{}) {
				in = in[1:]
			}
			all = append(all, in[:len(in)-1]...)
			if to < len(c.List) && c.List[to].Kind == api.Disc {
				discs++
			}
			from = to
		}
		if want := remaining(c.List, c.At); !slices.Equal(all, want) {
			t.Fatalf("%s: %s; want %s", choiceText(c), told(all), told(want))
		}
	})
	if count < 1000 || discs < 400 {
		t.Errorf("only %d paragraphs, %d Discs", count, discs)
	}
}

// P10.9: and so are the boxes, with what left them: but for Adjusts, of which the contents are left.
func TestP109Boxes(t *testing.T) {
	count := settings(1090, 1500, 12, func(x setting, c paras.Choice, r paras.Result) {
		var stays, out []api.Node
		for _, item := range items(r.List) {
			if item[0].Kind == api.HBox && slices.Contains(r.Lines, len(stays)+len(out)) {
				stays = append(stays, item...)
			} else {
				out = append(out, item...)
			}
		}
		var wantOut, wantIn []api.Node
		for _, item := range items(remaining(c.List, c.At)) {
			switch item[0].Kind {
			case api.Adjust:
				wantOut = append(wantOut, item[1:len(item)-1]...)
			case api.Ins, api.Mark:
				wantOut = append(wantOut, item...)
			default:
				wantIn = append(wantIn, item...)
			}
		}
		var in []api.Node
		for _, box := range items(stays) {
			inside := box[1 : len(box)-2]
			if x.p.Left != (api.Glue{}) {
				inside = inside[1:]
			}
			in = append(in, inside...)
		}
		out = slices.DeleteFunc(out, func(n api.Node) bool { return n.Kind == api.Penalty }) // what leaves a line here has none of its own
		if !slices.Equal(in, wantIn) || !slices.Equal(out, wantOut) || r.Out != len(items(wantOut)) {
			t.Fatalf("%s; %s", choiceText(c), resultText(r))
		}
	})
	if count < 1000 {
		t.Errorf("only %d paragraphs", count)
	}
}

// above: no Stretch and no Shrink is below 0.
func above(g api.Glue) bool { return g.Stretch >= 0 && g.Shrink >= 0 }

// P10.10: a line's Badness by chapter 9 is pack's, where one of them is below 10000.
func TestP1010(t *testing.T) {
	alike := 0
	settings(1010, 3000, 10, func(x setting, c paras.Choice, r paras.Result) {
		if !above(x.p.Left) || !above(x.p.Right) || slices.ContainsFunc(c.List, func(n api.Node) bool { return !above(n.Glue) }) {
			return
		}
		told, e := breaks.Cost(c.List, x.p, 0, 0, c.At)
		if e != api.OK {
			t.Fatalf("Cost of %s: %d", choiceText(c), e)
		}
		for n, line := range told {
			if min(line.Badness, r.Bad[n]) >= 10000 {
				continue
			}
			alike++
			if line.Badness != r.Bad[n] {
				t.Fatalf("%s; %s: line %d: %d", choiceText(c), resultText(r), n, line.Badness)
			}
		}
	})
	if alike < 1000 {
		t.Errorf("only %d lines", alike)
	}
}
