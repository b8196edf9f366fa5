package hyph_test

import (
	"slices"
	"strings"
	"testing"

	"galley/api"
	"galley/hyph"
)

func TestP704Example(t *testing.T) {
	h := told(t, example()...)
	valuesAre(t, h, "hyphenation", 0, 3, 0, 0, 2, 5, 4, 2, 0, 2)
	valuesAre(t, h, "hyphen", 0, 3, 0, 0, 2)
	valuesAre(t, h, "nation", 2, 1, 2, 0, 2)
	valuesAre(t, h, "zzz", 0, 0)
}

// Words of one letter, and of as many as may be.
func TestP704Long(t *testing.T) {
	for _, h := range []*hyph.Hyph{hyph.New(), told(t, "1a1", ".2a.", "3.a4", "b5.")} {
		for c := byte('a'); c <= 'z'; c++ {
			valuesAre(t, h, string([]byte{c}))
		}
	}
	h := told(t, everywhere(longest, "7"))
	valuesAre(t, h, longest, slices.Repeat([]int{7}, 62)...)
	valuesAre(t, h, longest[1:], make([]int, 61)...)
	h = told(t, "."+everywhere(two, "7"), everywhere(two, "5")+".", everywhere(one, "3")+".")
	valuesAre(t, h, two, slices.Repeat([]int{7}, 60)...)
	valuesAre(t, h, one, slices.Repeat([]int{5}, 61)...)
	valuesAre(t, h, longest, slices.Concat([]int{3}, slices.Repeat([]int{5}, 61))...)
	h = told(t, "1a2a3")
	valuesAre(t, h, strings.Repeat("a", 63), slices.Concat([]int{2}, slices.Repeat([]int{3}, 61))...)
	valuesAre(t, h, strings.Repeat("z", 63), make([]int, 62)...)
}

func TestP704Wrong(t *testing.T) {
	for _, h := range []*hyph.Hyph{hyph.New(), told(t, "1a", "ta-ble")} {
		for _, text := range noWords() {
			valuesFail(t, h, text, api.ErrPattern)
		}
		for c := range 256 {
			if c < 'a' || c > 'z' {
				valuesFail(t, h, string([]byte{byte(c)}), api.ErrPattern)
				valuesFail(t, h, string([]byte{'a', byte(c), 'b'}), api.ErrPattern)
			}
		}
	}
}

// Where a pattern stands in a word, at its edges too.
func TestP704Places(t *testing.T) {
	for pattern, want := range map[string][]int{
		"1a": {0, 1, 0, 0, 1}, "a1": {1, 0, 1, 0, 0}, "1a2": {2, 1, 2, 0, 1}, "2a1": {1, 2, 1, 0, 2},
		".1a": {0, 0, 0, 0, 0}, ".a1": {1, 0, 0, 0, 0}, ".a1b2": {1, 2, 0, 0, 0}, "9.a": {0, 0, 0, 0, 0},
		"1a.": {0, 0, 0, 0, 1}, "a1.": {0, 0, 0, 0, 0}, "a.9": {0, 0, 0, 0, 0}, "3c2a.": {0, 0, 0, 3, 2},
		".b1": {0, 0, 0, 0, 0}, "1c.": {0, 0, 0, 0, 0}, ".a.": {0, 0, 0, 0, 0}, "d1": {0, 0, 0, 0, 0},
		".1a2b3a4b5c6a7.": {2, 3, 4, 5, 6}, ".a1b2a3c4a.": {0, 0, 0, 0, 0}, "1a2b3": {2, 3, 2, 3, 0}, "1ab2": {0, 2, 0, 2, 0},
		"abab9c": {0, 0, 0, 9, 0}, "ababca9": {0, 0, 0, 0, 0}, "9ababca": {0, 0, 0, 0, 0}, "ababc9a": {0, 0, 0, 0, 9}, "9ababcaa9": {0, 0, 0, 0, 0},
	} {
		valuesAre(t, told(t, pattern), "ababca", want...)
	}
}

// The greatest value at each place, of patterns that begin one another, end one another, and stand beside one another.
func TestP704Greatest(t *testing.T) {
	valuesAre(t, told(t, "a1", "a2b", "a3bc", "a4bcd"), "abcd", 4, 0, 0)
	valuesAre(t, told(t, "a4", "a3b", "a2bc", "a1bcd"), "abcd", 4, 0, 0)
	valuesAre(t, told(t, "a", "ab", "a1bc", "abcd"), "abcd", 1, 0, 0)
	valuesAre(t, told(t, "abc1d", "bc2d", "c3d", "4d"), "abcd", 0, 0, 4)
	valuesAre(t, told(t, "a1b", "b2c", "c3d", "d4e"), "abcd", 1, 2, 3)
	valuesAre(t, told(t, "a0b", "a9b.", ".a5b"), "ab", 9)
	valuesAre(t, told(t, "a0b", "a9b.", ".a5b"), "abc", 5, 0)
	valuesAre(t, told(t, "a0b", "a9b.", ".a5b"), "cab", 0, 9)
	for digit := range 10 {
		valuesAre(t, told(t, "x"+string(rune('0'+digit))+"y"), "xxyy", 0, digit, 0)
	}
}

// Exceptions have no values, and change none.
func TestP704Exceptions(t *testing.T) {
	h := told(t, append(example(), "h-y-p-h-enation", "*hyphen", "z-z-z")...)
	valuesAre(t, h, "hyphenation", 0, 3, 0, 0, 2, 5, 4, 2, 0, 2)
	valuesAre(t, h, "hyphen", 0, 3, 0, 0, 2)
	valuesAre(t, h, "zzz", 0, 0)
}

func TestP704Random(t *testing.T) {
	r := &random{704}
	above := 0
	for range 400 {
		l := r.patterns(1+r.below(60), 5, 3)
		h, p := told(t, l...), plainly(l...)
		for range 10 {
			word := r.letters(20, 3)
			want := p.between(word)
			valuesAre(t, h, word, want...)
			if slices.Contains(want, 9) {
				above++
			}
		}
	}
	if above < 1000 {
		t.Errorf("few words had a great value: %d", above)
	}
}
