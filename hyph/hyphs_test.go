package hyph_test

import (
	"math"
	"slices"
	"strings"
	"testing"

	"galley/api"
	"galley/hyph"
)

// Letters, as many as a word may have, and as a pattern may that has one point, or two.
var (
	longest = strings.Repeat("abcdefghi", 7)
	one     = longest[1:]
	two     = longest[2:]
)

// example: the patterns of the chapter's example.
func example() []string {
	return []string{"hy3ph", "he2n", "hena4", "hen5at", "1na", "n2at", "1tio", "2io", "o2n"}
}

// told: a Hyph to which patterns and exceptions were told: texts with a hyphen are exceptions, and words behind a star.
func told(t *testing.T, texts ...string) *hyph.Hyph {
	t.Helper()
	h := hyph.New()
	tell(t, h, texts...)
	return h
}

func tell(t *testing.T, h *hyph.Hyph, texts ...string) {
	t.Helper()
	for _, text := range texts {
		say := h.Pattern
		if word, found := strings.CutPrefix(text, "*"); found || strings.Contains(text, "-") {
			say, text = h.Except, word
		}
		if e := say(text); e != api.OK {
			t.Errorf("%q: %d", text, e)
		}
	}
}

// answers: what a Hyph tells of itself, and of some words.
type answers struct {
	size                 int
	patterns, exceptions []string
	values, points       [][]int
}

func asked(h *hyph.Hyph, words ...string) answers {
	a := answers{size: h.Size(), patterns: h.Patterns(), exceptions: h.Exceptions()}
	for _, word := range words {
		values, _ := h.Values(word)
		points, _ := h.Points(word, 1, 1)
		a.values, a.points = append(a.values, values), append(a.points, points)
	}
	return a
}

func (a answers) same(b answers) bool {
	return a.size == b.size && slices.Equal(a.patterns, b.patterns) && slices.Equal(a.exceptions, b.exceptions) &&
		slices.EqualFunc(a.values, b.values, slices.Equal) && slices.EqualFunc(a.points, b.points, slices.Equal)
}

func valuesAre(t *testing.T, h *hyph.Hyph, word string, want ...int) {
	t.Helper()
	if v, e := h.Values(word); !slices.Equal(v, want) || e != api.OK {
		t.Errorf("Values of %q = %v, %d; want %v", word, v, e, want)
	}
}

func valuesFail(t *testing.T, h *hyph.Hyph, word string, want api.Errno) {
	t.Helper()
	if v, e := h.Values(word); len(v) != 0 || e != want {
		t.Errorf("Values of %q = %v, %d; want %d", word, v, e, want)
	}
}

func pointsAre(t *testing.T, h *hyph.Hyph, word string, left, right int, want ...int) {
	t.Helper()
	if p, e := h.Points(word, left, right); !slices.Equal(p, want) || e != api.OK {
		t.Errorf("Points of %q, %d, %d = %v, %d; want %v", word, left, right, p, e, want)
	}
}

func pointsFail(t *testing.T, h *hyph.Hyph, word string, left, right int, want api.Errno) {
	t.Helper()
	if p, e := h.Points(word, left, right); len(p) != 0 || e != want {
		t.Errorf("Points of %q, %d, %d = %v, %d; want %d", word, left, right, p, e, want)
	}
}

// noWords: texts that are no words.
func noWords() []string {
	return []string{
		"", ".", "-", "0", "A", "Z", "@", "[", "`", "{", " ", "\x00", "\x7f", "\x80", "\xff", "\xe1", "é", "ß", "ſ", "ａ", "α",
		"aB", "Ba", "a.", ".a", ".a.", "a.b", "a-b", "-a", "a-", "a1", "1a", "a1b", "a b", " a", "a ", "a\n", "a\x00", "\x00a", "a\xffb", "aéb",
		"a'b", "a/b", "a:b", longest + "a", longest + ".", longest + "-", longest[1:] + "A", longest[2:] + "é", strings.Repeat("a", 1<<16),
	}
}

// far: numbers that no word is long enough for.
func far() []int {
	return []int{64, 65, 128, 1 << 31, 1<<31 - 1, 1 << 32, 1<<32 + 1, 1 << 62, math.MaxInt - 63, math.MaxInt - 1, math.MaxInt}
}

// below: numbers that are too small.
func below() []int { return []int{0, -1, -2, -63, -1 << 31, 1 - 1<<32, math.MinInt, math.MinInt + 1} }

// random: numbers, the same ones each time.
type random struct{ state uint64 }

func (r *random) below(n int) int {
	r.state = r.state*6364136223846793005 + 1442695040888963407
	return int(r.state>>33) % n
}

// letters: so many at most, one at least, of the first few ones.
func (r *random) letters(most, kinds int) string {
	l := make([]byte, 1+r.below(most))
	for i := range l {
		l[i] = 'a' + byte(r.below(kinds))
	}
	return string(l)
}

// edged: letters, now and then with points.
func (r *random) edged(letters string) string {
	if r.below(6) == 0 {
		letters = "." + letters
	}
	if r.below(6) == 0 {
		letters += "."
	}
	return letters
}

// digits: a pattern with these signs.
func (r *random) digits(signs string) string {
	var text []byte
	for i := range len(signs) + 1 {
		if r.below(2) == 0 {
			text = append(text, '0'+byte(r.below(10)))
		}
		text = append(text, signs[i:min(i+1, len(signs))]...)
	}
	return string(text)
}

// patterns: so many texts with unlike signs, in no order.
func (r *random) patterns(n, most, kinds int) []string {
	var texts []string
	taken := map[string]bool{}
	for range n {
		signs := r.edged(r.letters(most, kinds))
		if !taken[signs] {
			taken[signs] = true
			texts = append(texts, r.digits(signs))
		}
	}
	return texts
}

// exception: a word with hyphens; one without any begins with a star, as told asks for it.
func (r *random) exception(most, kinds int) string {
	letters := r.letters(most, kinds)
	text := letters[:1]
	for _, c := range letters[1:] {
		if r.below(3) == 0 {
			text += "-"
		}
		text += string(c)
	}
	if text == letters {
		return "*" + text
	}
	return text
}

// mixed: texts in another order.
func (r *random) mixed(texts []string) []string {
	l := slices.Clone(texts)
	for i := range l {
		j := i + r.below(len(l)-i)
		l[i], l[j] = l[j], l[i]
	}
	return l
}

// counted: the word that a number is, of three letters.
func counted(n int) string {
	return string([]byte{'a' + byte(n/676), 'a' + byte(n/26%26), 'a' + byte(n%26)})
}
