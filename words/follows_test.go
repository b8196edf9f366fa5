package words_test

import (
	"slices"
	"testing"

	"galley/api"
	"galley/hyph"
	"galley/nodes"
	"galley/words"
)

// unbroken: with each Disc of a list itself replaced by its third list.
func unbroken(t *testing.T, l []api.Node) []api.Node {
	t.Helper()
	var out []api.Node
	for at := 0; at < len(l); {
		behind, e := nodes.Item(l, at)
		if e != api.OK {
			t.Fatalf("no list: %d", e)
		}
		if l[at].Kind == api.Disc {
			_, _, third, _ := nodes.Parts(l, at)
			out = append(out, third...)
		} else {
			out = append(out, l[at:behind]...)
		}
		at = behind
	}
	return out
}

// discs: the places of a list's own Discs.
func discs(l []api.Node) []int {
	var at []int
	for i := 0; i < len(l); i, _ = nodes.Item(l, i) {
		if l[i].Kind == api.Disc {
			at = append(at, i)
		}
	}
	return at
}

// broken: words that were broken, one after the other, and what Break answered.
func broken(r *random, visit func(s words.Setup, l []api.Node, at []int, b []api.Node)) {
	for range 4000 {
		s := r.setup()
		l := r.nodes(s, r.below(len(s.Fonts)), 7)
		at := r.places(plainCount(l))
		if b, e := words.Break(l, s, at); e == api.OK {
			visit(s, l, at, b)
		}
	}
}

func TestP87Break(t *testing.T) {
	count := 0
	broken(&random{87}, func(s words.Setup, l []api.Node, at []int, b []api.Node) {
		count += len(discs(b))
		if !slices.Equal(unbroken(t, b), l) {
			t.Errorf("Break of %s, %v: %s", told(s, l), at, told(s, b))
		}
	})
	if count < 1500 {
		t.Errorf("only %d discretionaries", count)
	}
}

// (Of rows that have no Disc of their own.)
func TestP87Hyphenate(t *testing.T) {
	r := &random{870}
	count := 0
	for range 3000 {
		s := r.setup()
		l := append([]api.Node{{Kind: api.Skip}}, r.row(s)...)
		if slices.ContainsFunc(l, func(n api.Node) bool { return n.Kind == api.Disc }) {
			continue
		}
		b, e := words.Hyphenate(l, s, r.hyph())
		if e != api.OK || !slices.Equal(unbroken(t, b), l) {
			t.Errorf("Hyphenate of %s: %s, %d", told(s, l), told(s, b), e)
		}
		count += len(discs(b))
	}
	if count < 500 {
		t.Errorf("only %d discretionaries", count)
	}
}

// sides: what is made ahead of a place of a word, and behind it; false, if there is no making one of them.
func sides(s words.Setup, l []api.Node, p int) (ahead, behind []api.Node, found bool) {
	f := l[0].Font
	var c []byte
	for _, n := range l {
		c = append(c, plainLetters(n)...)
	}
	left, right, _ := plainWith(l, s, f, c)
	ahead, e := words.Make(s, f, slices.Concat(c[:p], []byte{byte(s.Hyphen[f])}), left, false)
	behind, e2 := words.Make(s, f, c[p:], true, right)
	return ahead, behind, e == api.OK && e2 == api.OK
}

// atDisc: what stands ahead of a break at the Disc at a place, and behind it.
func atDisc(b []api.Node, at int) (ahead, behind []api.Node) {
	first, second, _, _ := nodes.Parts(b, at)
	end, _ := nodes.Item(b, at)
	return slices.Concat(b[:at], first), slices.Concat(second, b[end:])
}

// A break at each place by itself: what is on its two sides is what is made of the letters there.
func TestP88Alone(t *testing.T) {
	count := 0
	broken(&random{88}, func(s words.Setup, l []api.Node, at []int, _ []api.Node) {
		for _, p := range at {
			b, e := words.Break(l, s, []int{p})
			if e != api.OK {
				t.Fatalf("Break of %s at %d: %d", told(s, l), p, e)
			}
			ahead, behind, found := sides(s, l, p)
			places := discs(b)
			if found != (len(places) == 1) {
				t.Errorf("Break of %s at %d: %s", told(s, l), p, told(s, b))
			}
			if !found {
				continue
			}
			count++
			gotAhead, gotBehind := atDisc(b, places[0])
			if !slices.Equal(gotAhead, ahead) || !slices.Equal(gotBehind, behind) {
				t.Errorf("Break of %s at %d: %s; want %s, and %s", told(s, l), p, told(s, b), told(s, ahead), told(s, behind))
			}
		}
	})
	if count < 1500 {
		t.Errorf("only %d discretionaries", count)
	}
}

// Of several breaks at once that is so ahead of the first one, and behind the last one, of some of the places.
func TestP88Several(t *testing.T) {
	broken(&random{880}, func(s words.Setup, l []api.Node, at []int, b []api.Node) {
		places := discs(b)
		if len(places) == 0 {
			return
		}
		first, _ := atDisc(b, places[0])
		_, last := atDisc(b, places[len(places)-1])
		begins, ends := false, false
		for _, p := range at {
			ahead, behind, found := sides(s, l, p)
			begins = begins || found && slices.Equal(ahead, first)
			ends = ends || found && slices.Equal(behind, last)
		}
		if !begins || !ends {
			t.Errorf("Break of %s, %v: %s", told(s, l), at, told(s, b))
		}
	})
}

func TestP89(t *testing.T) {
	broken(&random{89}, func(s words.Setup, l []api.Node, at []int, b []api.Node) {
		if e := nodes.Check(b); e != api.OK {
			t.Errorf("Break of %s, %v: %s: %d", told(s, l), at, told(s, b), e)
		}
		if len(discs(b)) == 0 && !slices.Equal(b, l) {
			t.Errorf("Break of %s, %v: %s", told(s, l), at, told(s, b))
		}
	})
	// A list stays one, however deep it is elsewhere.
	s := setup(example())
	deep := slices.Concat(slices.Repeat([]api.Node{{Kind: api.HBox}}, 39), row(s, "l"), slices.Repeat([]api.Node{{Kind: api.End}}, 39))
	l, e := words.Hyphenate(slices.Concat(row(s, "_la_"), deep), s, patterns(t, "1a"))
	if e != api.OK || !slices.Equal(l, slices.Concat(row(s, "_l{-||}a_"), deep)) || nodes.Check(l) != api.OK {
		t.Errorf("Hyphenate beside a deep box: %s, %d", told(s, l), e)
	}
	makesLists(t)
}

// makesLists: what Make answers is a list, too.
func makesLists(t *testing.T) {
	t.Helper()
	r := &random{890}
	for range 1000 {
		s := r.setup()
		if l, e := words.Make(s, 0, r.word(few, 9), r.chance(2), r.chance(2)); e == api.OK && nodes.Check(l) != api.OK {
			t.Errorf("Make: %s: %d", told(s, l), nodes.Check(l))
		}
	}
}

func TestP810(t *testing.T) {
	r := &random{810}
	h := hyph.New()
	h.Pattern("2a")
	h.Except("abc")
	for range 3000 {
		s := r.setup()
		l := r.nodes(s, 0, 7)
		if b, e := words.Break(l, s, nil); e == api.OK && !slices.Equal(b, l) || e != api.OK && e != api.ErrNone {
			t.Errorf("Break of %s at no place: %s, %d", told(s, l), told(s, b), e)
		}
		l = r.row(s)
		for _, h := range []*hyph.Hyph{hyph.New(), h} {
			if b, e := words.Hyphenate(l, s, h); e != api.OK || !slices.Equal(b, l) {
				t.Errorf("Hyphenate of %s: %s, %d", told(s, l), told(s, b), e)
			}
		}
	}
}
