package hyph_test

import (
	"maps"
	"slices"
	"testing"

	"galley/api"
	"galley/hyph"
)

func TestP705Example(t *testing.T) {
	h := told(t, append(example(), "ta-ble")...)
	pointsAre(t, h, "hyphenation", 2, 3, 2, 6)
	pointsAre(t, h, "table", 2, 2, 2)
	pointsAre(t, h, "a", 1, 1)
	pointsAre(t, h, "hyphenation", 3, 3, 6)
	pointsAre(t, h, "hyphenation", 2, 6, 2)
	pointsAre(t, h, "hyphenation", 3, 6)
}

// ErrPattern comes ahead of ErrRange.
func TestP705Wrong(t *testing.T) {
	for _, h := range []*hyph.Hyph{hyph.New(), told(t, "1a", "ta-ble")} {
		for _, text := range noWords() {
			for _, n := range append(below(), 1, 2, 63) {
				pointsFail(t, h, text, n, 1, api.ErrPattern)
				pointsFail(t, h, text, 1, n, api.ErrPattern)
				pointsFail(t, h, text, n, n, api.ErrPattern)
			}
		}
		for _, word := range []string{"a", "table", "aaaa", longest} {
			for _, n := range below() {
				for _, m := range append(append(far(), below()...), 1, 2, 63) {
					pointsFail(t, h, word, n, m, api.ErrRange)
					pointsFail(t, h, word, m, n, api.ErrRange)
				}
			}
		}
	}
}

// An odd value lets a word be hyphenated, an even one doesn't.
func TestP705Odd(t *testing.T) {
	for digit := range 10 {
		h := told(t, "x"+string(rune('0'+digit))+"y")
		if digit%2 == 1 {
			pointsAre(t, h, "axyb", 1, 1, 2)
		} else {
			pointsAre(t, h, "axyb", 1, 1)
		}
	}
	h := told(t, "a1b2c3d4e5f6g7h8i9j0k")
	pointsAre(t, h, "abcdefghijk", 1, 1, 1, 3, 5, 7, 9)
	tell(t, h, "abcd5e", "ab1c", "c2d")
	pointsAre(t, h, "abcdefghijk", 1, 1, 1, 3, 4, 5, 7, 9)
	tell(t, h, "c4de", "bc6d")
	pointsAre(t, h, "abcdefghijk", 1, 1, 1, 4, 5, 7, 9)
	pointsAre(t, h, "zzzzzz", 1, 1)
}

// How many letters stay at either end, up to where nothing is left.
func TestP705Ends(t *testing.T) {
	for _, h := range []*hyph.Hyph{told(t, "9a9"), told(t, each("aaaaaaaa"))} {
		for left := 1; left <= 70; left++ {
			for right := 1; right <= 70; right++ {
				var want []int
				for at := left; at <= 8-right; at++ {
					want = append(want, at)
				}
				pointsAre(t, h, "aaaaaaaa", left, right, want...)
			}
		}
		for _, n := range far() {
			pointsAre(t, h, "aaaaaaaa", n, 1)
			pointsAre(t, h, "aaaaaaaa", 1, n)
			for _, m := range far() {
				pointsAre(t, h, "aaaaaaaa", n, m)
			}
		}
	}
}

// Words of one letter, and of as many as may be.
func TestP705Long(t *testing.T) {
	var all []int
	for at := 1; at < 63; at++ {
		all = append(all, at)
	}
	for _, h := range []*hyph.Hyph{told(t, everywhere(longest, "1"), "1a1"), told(t, each(longest), "*a")} {
		pointsAre(t, h, "a", 1, 1)
		pointsAre(t, h, "a", 1, 2)
		pointsAre(t, h, longest, 1, 1, all...)
		pointsAre(t, h, longest, 62, 1, 62)
		pointsAre(t, h, longest, 1, 62, 1)
		pointsAre(t, h, longest, 2, 62)
		pointsAre(t, h, longest, 63, 1)
		pointsAre(t, h, longest, 1, 63)
		pointsAre(t, h, longest, 31, 32, 31)
	}
}

// Of an exception its hyphens alone count, and of a word that is told again the last ones.
func TestP705Exceptions(t *testing.T) {
	h := told(t, "9a9", "9b9")
	pointsAre(t, h, "abab", 1, 1, 1, 2, 3)
	for _, text := range []string{"abab", "a-bab", "ab-ab", "aba-b", "a-b-a-b", "ab-ab", "abab"} {
		if e := h.Except(text); e != api.OK {
			t.Errorf("Except(%q) = %d", text, e)
		}
		for left := 1; left < 5; left++ {
			for right := 1; right < 5; right++ {
				pointsAre(t, h, "abab", left, right, plainly("*"+text).points("abab", left, right)...)
			}
		}
		pointsAre(t, h, "ababa", 1, 1, 1, 2, 3, 4)
		pointsAre(t, h, "aba", 1, 1, 1, 2)
	}
	h = told(t, "ta-ble")
	pointsAre(t, h, "tables", 1, 1)
	pointsAre(t, h, "tabl", 1, 1)
	tell(t, h, "1b")
	pointsAre(t, h, "table", 1, 1, 2)
	pointsAre(t, h, "stable", 1, 1, 3)
}

func TestP705Random(t *testing.T) {
	r := &random{705}
	count := 0
	for range 400 {
		l := r.patterns(1+r.below(40), 4, 2)
		for range r.below(20) {
			l = append(l, r.exception(6, 2))
		}
		h, p := told(t, l...), plainly(l...)
		for range 20 {
			word := r.letters(8, 2)
			if all := slices.Sorted(maps.Keys(p.words)); len(all) > 0 && r.below(2) == 0 {
				word = all[r.below(len(all))]
			}
			left, right := 1+r.below(4), 1+r.below(4)
			want := p.points(word, left, right)
			pointsAre(t, h, word, left, right, want...)
			if p.words[word] != "" && len(want) > 0 {
				count++
			}
		}
	}
	if count < 500 {
		t.Errorf("few exceptions were asked for: %d", count)
	}
}
