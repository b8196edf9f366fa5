package hyph_test

import (
	"slices"
	"testing"

	"galley/api"
	"galley/hyph"
)

// refuses: of one that New did not make, each call.
func refuses(t *testing.T, name string, h *hyph.Hyph) {
	t.Helper()
	for _, text := range append(noWords(), "a", "table", "1a", ".a1b2.", "ta-ble", longest) {
		if e := h.Pattern(text); e != api.ErrArg {
			t.Errorf("%s: Pattern(%.20q) = %d", name, text, e)
		}
		if e := h.Except(text); e != api.ErrArg {
			t.Errorf("%s: Except(%.20q) = %d", name, text, e)
		}
		valuesFail(t, h, text, api.ErrArg)
		for _, n := range append(append(far(), below()...), 1, 2) {
			pointsFail(t, h, text, n, 1, api.ErrArg)
			pointsFail(t, h, text, 1, n, api.ErrArg)
		}
	}
	if n := h.Size(); n != 0 {
		t.Errorf("%s: Size = %d", name, n)
	}
	if p, x := h.Patterns(), h.Exceptions(); len(p) != 0 || len(x) != 0 {
		t.Errorf("%s: %q, %q", name, p, x)
	}
}

func TestP701Unmade(t *testing.T) {
	refuses(t, "nil", nil)
	refuses(t, "no Hyph of New's", &hyph.Hyph{})
	var h hyph.Hyph
	refuses(t, "no Hyph of New's", &h)
	tell(t, hyph.New(), "1a", "ta-ble")
	refuses(t, "behind one of New's", &h)
}

// A copy is none that New made; it can't be told anything, nor does what it copies know of it.
func TestP701Copy(t *testing.T) {
	h := told(t, "1a", "ta-ble")
	before := asked(h, "table")
	c := *h
	refuses(t, "a copy", &c)
	if after := asked(h, "table"); !after.same(before) {
		t.Errorf("%v, then %v", before, after)
	}
	tell(t, h, "1b", "so-me")
	refuses(t, "a copy", &c)
}

func TestP701New(t *testing.T) {
	h := hyph.New()
	if h == nil || h.Size() != 1 || len(h.Patterns()) != 0 || len(h.Exceptions()) != 0 {
		t.Errorf("New: %v", asked(h))
	}
	valuesAre(t, h, "table", 0, 0, 0, 0)
	pointsAre(t, h, "table", 1, 1)
}

// Two that are told things by turns know nothing of each other.
func TestP701Turns(t *testing.T) {
	r := &random{701}
	both := [2]*hyph.Hyph{hyph.New(), hyph.New()}
	plain := [2]plain{plainly(), plainly()}
	for range 600 {
		i := r.below(2)
		text := r.digits(r.edged(r.letters(4, 2)))
		if e, want := both[i].Pattern(text), plain[i].pattern(text); e != want {
			t.Errorf("Pattern(%q) = %d; want %d", text, e, want)
		}
		text = r.exception(4, 2)
		if e, want := both[i].Except(text), plain[i].except(text); e != want {
			t.Errorf("Except(%q) = %d; want %d", text, e, want)
		}
		word := r.letters(8, 2)
		for i, h := range both {
			if got, want := asked(h, word), plain[i].asked(word); !got.same(want) {
				t.Fatalf("%v; want %v", got, want)
			}
		}
	}
}

// What was answered is the caller's: what is done with it, and with the room behind it, changes nothing.
func TestP701Share(t *testing.T) {
	h := told(t, append(example(), "ta-ble", "*some", "a-a")...)
	want := asked(h, "hyphenation", "table", "a")
	for range 3 {
		a, b := asked(h, "hyphenation", "table", "a"), asked(h, "hyphenation", "table", "a")
		spoil(&a)
		if !b.same(want) {
			t.Errorf("an answer changed with another one: %v; want %v", b, want)
		}
	}
	if again := asked(h, "hyphenation", "table", "a"); !again.same(want) {
		t.Errorf("%v, then %v", want, again)
	}
}

func spoil(a *answers) {
	for _, l := range [][]string{a.patterns, a.exceptions} {
		for i := range l[:cap(l)] {
			l[:cap(l)][i] = "x"
		}
	}
	for _, l := range slices.Concat(a.values, a.points) {
		for i := range l[:cap(l)] {
			l[:cap(l)][i] = 99
		}
	}
}

// Words are asked for in any order, again and again.
func TestP701Pure(t *testing.T) {
	r := &random{7010}
	h := told(t, append(r.patterns(50, 5, 3), r.exception(6, 3), r.exception(6, 3))...)
	var words []string
	for range 30 {
		words = append(words, r.letters(10, 3))
	}
	want := asked(h, words...)
	for range 5 {
		for _, word := range r.mixed(words) {
			h.Points(word, 1+r.below(3), r.below(3))
			h.Values(word + ".")
		}
		if got := asked(h, words...); !got.same(want) {
			t.Errorf("%v, then %v", want, got)
		}
	}
}

// Calls that only ask do not meet, if they are made at the same time.
func TestP701Together(t *testing.T) {
	h := told(t, append(example(), "ta-ble")...)
	want := asked(h, "hyphenation", "table")
	done := make(chan answers)
	for range 8 {
		go func() { done <- asked(h, "hyphenation", "table") }()
	}
	for range 8 {
		if got := <-done; !got.same(want) {
			t.Errorf("%v; want %v", got, want)
		}
	}
}
