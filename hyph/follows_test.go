package hyph_test

import (
	"slices"
	"strings"
	"testing"

	"galley/api"
	"galley/hyph"
)

// values: of a word.
func values(t *testing.T, h *hyph.Hyph, word string) []int {
	t.Helper()
	v, e := h.Values(word)
	if e != api.OK || len(v) != len(word)-1 {
		t.Fatalf("Values of %q = %v, %d", word, v, e)
	}
	return v
}

// atLeast: is no value less than the one at the same place?
func atLeast(v, least []int) bool {
	for i, n := range least {
		if v[i] < n {
			return false
		}
	}
	return true
}

// More patterns make no value less, and more of them greater.
func TestP707More(t *testing.T) {
	r := &random{707}
	grown := 0
	for range 100 {
		h, word := hyph.New(), r.letters(15, 3)
		last := values(t, h, word)
		if slices.ContainsFunc(last, func(n int) bool { return n != 0 }) {
			t.Errorf("values without patterns: %v", last)
		}
		for _, text := range r.patterns(40, 5, 3) {
			tell(t, h, text)
			now := values(t, h, word)
			if !atLeast(now, last) {
				t.Fatalf("%q made of %q's values %v: %v", text, word, last, now)
			}
			if !slices.Equal(now, last) {
				grown++
			}
			last = now
		}
	}
	if grown < 300 {
		t.Errorf("too few values grew: %d", grown)
	}
}

// The values are the greatest of those that the patterns alone give, one by one; of two halves, too.
func TestP707Alone(t *testing.T) {
	r := &random{7070}
	for range 100 {
		l, word := r.patterns(30, 5, 3), r.letters(15, 3)
		want := make([]int, len(word)-1)
		for _, text := range l {
			for i, n := range values(t, told(t, text), word) {
				want[i] = max(want[i], n)
			}
		}
		valuesAre(t, told(t, l...), word, want...)
		half := r.below(len(l))
		first, second := values(t, told(t, l[:half]...), word), values(t, told(t, l[half:]...), word)
		for i := range first {
			if max(first[i], second[i]) != want[i] {
				t.Errorf("%q: %v and %v; want %v", word, first, second, want)
			}
		}
	}
}

// In which order they come has no part in any answer.
func TestP707Order(t *testing.T) {
	r := &random{70707}
	for range 60 {
		l := r.patterns(30, 5, 3)
		words := []string{r.letters(15, 3), r.letters(15, 3), r.letters(5, 3)}
		want := asked(told(t, l...), words...)
		for range 5 {
			if got := asked(told(t, r.mixed(l)...), words...); !got.same(want) {
				t.Fatalf("%q, in two orders: %v, %v", l, got, want)
			}
		}
	}
	words := []string{"hyphenation", "nation", "then"}
	want := asked(told(t, example()...), words...)
	for i := range example() {
		l := example()
		l = append(l[i:], l[:i]...)
		if got := asked(told(t, l...), words...); !got.same(want) {
			t.Errorf("%q: %v; want %v", l, got, want)
		}
	}
}

// Points for greater left and right are those that are still far enough from the ends.
func TestP708Ends(t *testing.T) {
	r := &random{708}
	for range 100 {
		l := append(r.patterns(20, 4, 2), r.exception(8, 2), r.exception(8, 2))
		h, word := told(t, l...), r.letters(10, 2)
		all, _ := h.Points(word, 1, 1)
		for left := 1; left < 12; left++ {
			for right := 1; right < 12; right++ {
				var want []int
				for _, at := range all {
					if at >= left && len(word)-at >= right {
						want = append(want, at)
					}
				}
				pointsAre(t, h, word, left, right, want...)
			}
		}
	}
}

// Where no pattern has a point, the values within a piece of a word are no more than what they are in the whole.
func TestP708Pieces(t *testing.T) {
	r := &random{7080}
	for range 60 {
		l := slices.DeleteFunc(r.patterns(30, 5, 3), func(text string) bool { return strings.Contains(text, ".") })
		h, word := told(t, l...), r.letters(20, 3)
		whole := values(t, h, word)
		for from := range len(word) {
			for to := from + 1; to <= len(word); to++ {
				if piece := values(t, h, word[from:to]); !atLeast(whole[from:], piece) {
					t.Fatalf("%q: %v; its piece %q: %v", word, whole, word[from:to], piece)
				}
			}
		}
	}
	h := told(t, ".a1b", "a1b.")
	if v := values(t, h, "cabc"); v[1] != 0 || values(t, h, "ab")[0] != 1 {
		t.Errorf("with points: %v", v)
	}
}
