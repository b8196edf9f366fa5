package vlist_test

import (
	"slices"
	"testing"

	"galley/api"
	"galley/nodes"
	"galley/scaled"
	"galley/vlist"
)

// The chapter's words, done word for word, of columns and numbers that may be.

// part: an item of a column.
type part struct {
	at    int
	nodes []api.Node
}

func (p part) kind() int { return p.nodes[0].Kind }

func (p part) falls() bool {
	return p.kind() == api.Skip || p.kind() == api.Kern || p.kind() == api.Penalty
}

func (p part) stands() bool {
	return p.kind() == api.HBox || p.kind() == api.VBox || p.kind() == api.Rule
}

func parts(t *testing.T, l []api.Node) []part {
	t.Helper()
	var all []part
	for at := 0; at < len(l); {
		end, e := nodes.Item(l, at)
		if e != api.OK {
			t.Fatalf("Item of %s at %d: %d", told(l), at, e)
		}
		all = append(all, part{at, l[at:end]})
		at = end
	}
	return all
}

// plainBreaks: the places of the legal breaks, and their penalties.
func plainBreaks(t *testing.T, l []api.Node) (at, penalty []int) {
	t.Helper()
	all := parts(t, l)
	for i, p := range all {
		q := 10000
		switch {
		case p.kind() == api.Skip && i > 0 && !all[i-1].falls():
			q = 0
		case p.kind() == api.Kern && i+1 < len(all) && all[i+1].kind() == api.Skip:
			q = 0
		case p.kind() == api.Penalty:
			q = p.nodes[0].Penalty
		}
		if q < 10000 {
			at, penalty = append(at, p.at), append(penalty, q)
		}
	}
	return append(at, len(l)), append(penalty, -10000)
}

// plainSize: of what stands ahead of a place.
func plainSize(t *testing.T, l []api.Node, to, depth int) (sum api.Totals, d int) {
	t.Helper()
	ahead := parts(t, l[:to])
	for _, p := range ahead {
		switch n := p.nodes[0]; n.Kind {
		case api.Rule, api.HBox, api.VBox:
			sum.Nat += n.H + n.D
		case api.Kern:
			sum.Nat += n.W
		case api.Skip:
			sum.Nat += n.Glue.Nat
			sum.Stretch[n.Glue.StretchOrder] += n.Glue.Stretch
			sum.Shrink[n.Glue.ShrinkOrder] += n.Glue.Shrink
		}
	}
	last := len(ahead) - 1
	for last >= 0 && slices.Contains([]int{api.Mark, api.Special, api.Ins, api.Penalty}, ahead[last].kind()) {
		last--
	}
	if last >= 0 && ahead[last].stands() {
		d = ahead[last].nodes[0].D
		sum.Nat -= d
	}
	if d > depth {
		sum.Nat += d - depth
		d = depth
	}
	return sum, d
}

func plainCost(t *testing.T, l []api.Node, to, q, height, depth int) int {
	t.Helper()
	sum, _ := plainSize(t, l, to, depth)
	s, b := height-sum.Nat, 0
	more := sum.Stretch[1] != 0 || sum.Stretch[2] != 0 || sum.Stretch[3] != 0
	switch {
	case s == 0:
	case s > 0 && more:
	case s > 0:
		b, _ = scaled.Badness(min(s, api.MaxNumber), max(min(sum.Stretch[0], api.MaxNumber), -1))
	case -s > sum.Shrink[0]:
		return awful
	default:
		b, _ = scaled.Badness(min(-s, api.MaxNumber), max(min(sum.Shrink[0], api.MaxNumber), -1))
	}
	switch {
	case q <= -10000:
		return q
	case b < 10000:
		return b + q
	}
	return 100000
}

func plainBest(t *testing.T, l []api.Node, height, depth int) (at, size, cost int) {
	t.Helper()
	places, penalties := plainBreaks(t, l)
	for i, to := range places {
		c := plainCost(t, l, to, penalties[i], height, depth)
		if i == 0 || c <= cost {
			at, cost = to, c
		}
		if penalties[i] <= -10000 || c == awful {
			break
		}
	}
	sum, d := plainSize(t, l, at, depth)
	return at, sum.Nat + d, cost
}

func plainPrune(t *testing.T, l []api.Node, top api.Glue) []api.Node {
	t.Helper()
	var kept []api.Node
	for _, p := range parts(t, l) {
		if p.stands() {
			n := top.Nat - p.nodes[0].H
			if n < 0 {
				n = 0
			}
			if n > most {
				n = most
			}
			top.Nat = n
			return join(kept, of(top, 10), l[p.at:])
		}
		if !p.falls() {
			kept = join(kept, p.nodes)
		}
	}
	return kept
}

func plainMarks(t *testing.T, l []api.Node) (first, last string, some bool) {
	t.Helper()
	var texts []string
	for _, p := range parts(t, l) {
		if p.kind() == api.Mark {
			texts = append(texts, p.nodes[0].Text)
		}
	}
	if len(texts) == 0 {
		return "", "", false
	}
	return texts[0], texts[len(texts)-1], true
}

func TestP1103Plainly(t *testing.T) {
	r := &random{1103}
	for range 5000 {
		l, top := r.column(9), r.glue()
		prunes(t, told(l), l, top, plainPrune(t, l, top))
	}
}

func TestP1104Plainly(t *testing.T) {
	r := &random{1104}
	for range 5000 {
		l := r.column(14)
		at, q := plainBreaks(t, l)
		legal(t, told(l), l, at, q...)
	}
}

func TestP1105Plainly(t *testing.T) {
	r := &random{1105}
	for range 1500 {
		l, depth := r.column(14), r.depth()
		places := []int{len(l)}
		for _, p := range parts(t, l) {
			places = append(places, p.at)
		}
		for to := -1; to <= len(l)+1; to++ {
			if !slices.Contains(places, to) {
				measuresNot(t, told(l), l, to, depth, api.ErrNone)
				continue
			}
			sum, d := plainSize(t, l, to, depth)
			measures(t, told(l), l, to, depth, sum, d)
		}
	}
}

func TestP1106Plainly(t *testing.T) {
	r := &random{1106}
	for range 1500 {
		l, height, depth := r.column(14), r.height(), r.depth()
		places, penalties := plainBreaks(t, l)
		for to := -1; to <= len(l)+1; to++ {
			i := slices.Index(places, to)
			if i < 0 {
				costsNot(t, told(l), l, to, height, depth, api.ErrNone)
				continue
			}
			costs(t, told(l), l, to, height, depth, plainCost(t, l, to, penalties[i], height, depth))
		}
	}
}

func TestP1107Plainly(t *testing.T) {
	r := &random{1107}
	seen := map[string]int{}
	for range 8000 {
		l, height, depth := r.column(20), r.height(), r.depth()
		at, size, cost := plainBest(t, l, height, depth)
		best(t, told(l), l, height, depth, at, size, cost)
		switch {
		case cost == awful:
			seen["awful"]++
		case cost == 100000:
			seen["deplorable"]++
		case cost <= -10000:
			seen["forced"]++
		default:
			seen["good"]++
		}
	}
	if len(seen) != 4 || min(seen["awful"], seen["deplorable"], seen["forced"], seen["good"]) < 300 {
		t.Errorf("too little of something: %v", seen)
	}
}

func TestP1108Plainly(t *testing.T) {
	r := &random{1108}
	for range 5000 {
		l, height, depth, top := r.column(20), r.height(), r.depth(), r.glue()
		at, _, _ := plainBest(t, l, height, depth)
		splits(t, told(l), l, height, depth, top, l[:at], plainPrune(t, l[at:], top))
	}
}

func TestP1109Plainly(t *testing.T) {
	r := &random{1109}
	for range 5000 {
		l := r.column(14)
		first, last, some := plainMarks(t, l)
		marks(t, told(l), l, first, last, some)
	}
}

func TestP1102Plainly(t *testing.T) {
	r := &random{1102}
	for range 5000 {
		b := box(r.from(-3, 12), r.from(-3, 5), char())
		if r.chance(3) {
			b = vbox(r.from(-3, 12), r.from(-3, 5), col("gb"))
		}
		before, limit, baseline, line := r.of(r.from(-9, 9), none, none+1, none-1), r.from(-9, 9), r.glue(), r.glue()
		want := b
		if before > none {
			x := baseline.Nat - before - b[0].H
			if x >= limit {
				between := baseline
				between.Nat = x
				want = join(of(between, 2), b)
			} else {
				want = join(of(line, 1), b)
			}
		}
		appends(t, told(b), before, b, baseline, line, limit, want, b[0].D)
		if l, _, _ := vlist.Append(before, b, baseline, line, limit); nodes.Check(l) != api.OK {
			t.Errorf("Append of %s: %s", told(b), told(l))
		}
	}
}
