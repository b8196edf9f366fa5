package hyph_test

import (
	"slices"
	"strings"
	"testing"

	"galley/api"
	"galley/hyph"
)

// everywhere: a text with a digit ahead of each of its signs, and behind the last one.
func everywhere(signs, digit string) string {
	return digit + strings.Join(strings.Split(signs, ""), digit) + digit
}

// What is a pattern, and how it is written.
func TestP702Right(t *testing.T) {
	for text, want := range map[string]string{
		"a": "a", "z": "z", "0a": "a", "a0": "a", "0a0": "a", "1a": "1a", "a1": "a1", "9a9": "9a9", "hy3ph": "hy3ph", "1n0a": "1na",
		".a": ".a", "a.": "a.", ".a.": ".a.", "1.a": ".a", "0.a": ".a", ".1a": ".1a", "1.2a": ".2a", "a.1": "a.", "a1.": "a1.", "a2.1": "a2.",
		"9.8a7.6": ".8a7.", "0.0a0.0": ".a.", "1.2a3b4.5": ".2a3b4.", "1.a1": ".a1", "1a.1": "1a.",
		longest: longest, "." + one: "." + one, one + ".": one + ".", "." + two + ".": "." + two + ".",
		everywhere(longest, "7"):         everywhere(longest, "7"),
		everywhere(longest, "0"):         longest,
		everywhere("."+two+".", "7"):     "." + everywhere(two, "7") + ".",
		everywhere("."+two+".", "0"):     "." + two + ".",
		everywhere("."+one, "3"):         "." + everywhere(one, "3"),
		everywhere(one+".", "3"):         everywhere(one, "3") + ".",
		"abcdefghijklm3nopqrstuvwxyz":    "abcdefghijklm3nopqrstuvwxyz",
		"0a1b2c3d4e5f6g7h8i9j0k1l2m3n4o": "a1b2c3d4e5f6g7h8i9jk1l2m3n4o",
	} {
		h := hyph.New()
		if e := h.Pattern(text); e != api.OK || !slices.Equal(h.Patterns(), []string{want}) {
			t.Errorf("Pattern(%q) = %d, %q; want %q", text, e, h.Patterns(), want)
		}
	}
}

// What is no pattern; it changes nothing.
func TestP702Wrong(t *testing.T) {
	h := told(t, "hy3ph", ".ta1")
	before := asked(h, "hyphen", "table")
	for _, text := range []string{
		"", ".", "..", "...", "1", "0", "12", "1.", ".1", "1.1", ".1.", "1.1.1", "..a", "a..", "..a..", ".a..", "a.b", "1a.b", ".a.b", "a.b.", ".a.b.", "a.1b",
		"11a", "00a", "01a", "10a", "a11", "a00", "a11b", "ab11", "11.a", ".11a", "a11.", "a.11", "123", "a123b",
		"A", "aB", "Ab", "1A", "a1B", "é", "aé", "ß", "ａ", "-", "a-b", "a b", " a", "a ", "a\n", "\ta", "a,b", "a/b", "a:b", "a`b", "a{b", "a@b", "a[b", "*a",
		"\x00", "a\x00", "\xff", "a\xff", "\x80a", "\xe1", "\xb1a", "١a", "²a", "½", "a½",
		longest + "a", longest + ".", "." + longest, "." + one + ".", "." + longest + ".", everywhere(longest+"a", "1"), longest + "A", longest + "-",
		strings.Repeat("a", 1<<16), strings.Repeat("1", 1<<16), strings.Repeat(".", 1<<16), strings.Repeat("1a", 1<<16),
	} {
		if e := h.Pattern(text); e != api.ErrPattern {
			t.Errorf("Pattern(%.70q) = %d; want ErrPattern", text, e)
		}
	}
	if after := asked(h, "hyphen", "table"); !after.same(before) {
		t.Errorf("what is no pattern changed %v into %v", before, after)
	}
}

// All bytes, alone, and among others.
func TestP702Bytes(t *testing.T) {
	for c := range 256 {
		for _, text := range []string{"?", "a?b", "?a", "a?"} {
			text = strings.ReplaceAll(text, "?", string([]byte{byte(c)}))
			h, p := hyph.New(), plainly()
			if e, want := h.Pattern(text), p.pattern(text); e != want || !asked(h).same(p.asked()) {
				t.Errorf("Pattern(%q) = %d, %q; want %d, %q", text, e, h.Patterns(), want, p.patterns())
			}
		}
	}
}

// All short texts, each told to a Hyph of its own, and all to one.
func TestP702Short(t *testing.T) {
	all, plainAll := hyph.New(), plainly()
	for _, text := range texts("a.10bA", 5) {
		h, p := hyph.New(), plainly()
		if e, want := h.Pattern(text), p.pattern(text); e != want || !asked(h).same(p.asked()) {
			t.Errorf("Pattern(%q) = %d, %q; want %d, %q", text, e, h.Patterns(), want, p.patterns())
		}
		if e, want := all.Pattern(text), plainAll.pattern(text); e != want {
			t.Errorf("Pattern(%q), among others = %d; want %d", text, e, want)
		}
	}
	if a, want := asked(all, "abba", "b"), plainAll.asked("abba", "b"); !a.same(want) {
		t.Errorf("all short patterns: %v; want %v", a, want)
	}
}

// A pattern with signs that are there is refused, whatever its digits; the first one stays.
func TestP702Same(t *testing.T) {
	for first, others := range map[string][]string{
		"hy3ph":      {"hy3ph", "hyph", "hy4ph", "h1yph", "1hyph", "hyph9", "h0y0p0h", "9h9y9p9h9"},
		"a":          {"a", "1a", "a1", "1a1", "0a"},
		".a":         {".a", "1.a", ".1a", ".a1", "0.a"},
		"a1.":        {"a.", "a.1", "1a.", "a1."},
		"1.a.1":      {".a.", ".a.5", "5.a."},
		longest:      {longest, "1" + longest, longest + "1", everywhere(longest, "1")},
		one + "1.":   {one + ".", "1" + one + "."},
		"7." + two:   {"." + two, ".7" + two},
		"0a0b0c3d0e": {"abcde"},
	} {
		h := told(t, first)
		before := asked(h, "hyphen", "a", "ab", "abcde", longest)
		for _, text := range others {
			if e := h.Pattern(text); e != api.ErrRange {
				t.Errorf("Pattern(%q) behind %q = %d; want ErrRange", text, first, e)
			}
		}
		if after := asked(h, "hyphen", "a", "ab", "abcde", longest); !after.same(before) {
			t.Errorf("%q: more of the same changed %v into %v", first, before, after)
		}
	}
	told(t, "a", ".a", "a.", ".a.", "aa", "ab", ".aa", "aa.", "b")
}

// Nothing is kept of what was refused.
func TestP702Again(t *testing.T) {
	h := hyph.New()
	for _, text := range []string{"abc11", "abc.d", "abcD"} {
		h.Pattern(text)
	}
	tell(t, h, "abc", "ab", "a")
	if e := h.Pattern("a1b"); e != api.ErrRange || h.Size() != 4 {
		t.Errorf("Pattern = %d; Size = %d", e, h.Size())
	}
}

func TestP702Order(t *testing.T) {
	want := []string{".a", "5.a1.", ".2ab", "1.b", ".z", "1a", "a.", "a1a", "a2b", "a9b.", "9ab1a", "ac", "b", "8ba", "z", "zz", "zzz3."}
	shown := []string{".a", ".a1.", ".2ab", ".b", ".z", "1a", "a.", "a1a", "a2b", "a9b.", "9ab1a", "ac", "b", "8ba", "z", "zz", "zzz3."}
	r := &random{702}
	for range 50 {
		if got := told(t, r.mixed(want)...).Patterns(); !slices.Equal(got, shown) {
			t.Fatalf("Patterns = %q; want %q", got, shown)
		}
	}
	if got := hyph.New().Patterns(); len(got) != 0 {
		t.Errorf("Patterns of none = %q", got)
	}
}

// What Patterns answers makes another Hyph that is the same.
func TestP702Random(t *testing.T) {
	r := &random{7020}
	for range 200 {
		l := r.patterns(40, 6, 3)
		h, p := told(t, l...), plainly(l...)
		if got, want := h.Patterns(), p.patterns(); !slices.Equal(got, want) {
			t.Fatalf("Patterns of %q = %q; want %q", l, got, want)
		}
		word := r.letters(12, 3)
		if a, b := asked(h, word), asked(told(t, h.Patterns()...), word); !a.same(b) {
			t.Fatalf("%v; told again: %v", a, b)
		}
	}
}

// As many as may be, and one more.
func TestP702Most(t *testing.T) {
	h := hyph.New()
	for n := range 5000 {
		tell(t, h, "1"+counted(n))
	}
	before := asked(h, "aaaaa", "table")
	if len(before.patterns) != 5000 || before.patterns[4999] != "1"+counted(4999) || before.size != 1+8+193+5000 {
		t.Errorf("%d patterns, the last one %q, %d states", len(before.patterns), before.patterns[len(before.patterns)-1], before.size)
	}
	for text, want := range map[string]api.Errno{
		counted(5000): api.ErrSize, "a": api.ErrSize, ".aaa": api.ErrSize, "aaaa": api.ErrSize, "zzz": api.ErrSize, longest: api.ErrSize,
		"aaa": api.ErrRange, "2aaa": api.ErrRange, counted(4999): api.ErrRange,
		"": api.ErrPattern, "aaaA": api.ErrPattern, "11aaa": api.ErrPattern, longest + "a": api.ErrPattern,
	} {
		if e := h.Pattern(text); e != want {
			t.Errorf("Pattern(%q) behind 5000 = %d; want %d", text, e, want)
		}
	}
	if after := asked(h, "aaaaa", "table"); !after.same(before) {
		t.Error("more than may be changed something")
	}
	tell(t, h, "ta-ble")
	pointsAre(t, h, "table", 1, 1, 2)
}

// As many as may be, as long as may be, that share little.
func TestP702Great(t *testing.T) {
	h := hyph.New()
	for n := range 5000 {
		if e := h.Pattern(counted(n) + longest[:59] + "1."); e != api.OK {
			t.Fatalf("the pattern number %d: %d", n, e)
		}
	}
	if n := h.Size(); n != 1+8+193+5000*61 {
		t.Errorf("Size = %d; want %d", n, 1+8+193+5000*61)
	}
	for _, n := range []int{0, 1, 77, 4999} {
		word := counted(n) + longest[:59]
		if v, e := h.Values(word); e != api.OK || len(v) != 61 || slices.Max(v) != 0 {
			t.Errorf("Values of %q = %v, %d", word, v, e)
		}
		valuesFail(t, h, word+"ab", api.ErrPattern)
	}
	if l := h.Patterns(); len(l) != 5000 || l[77] != counted(77)+longest[:59]+"1." || !slices.IsSorted(l) {
		t.Errorf("%d patterns", len(l))
	}
}
