package hyph_test

import (
	"testing"

	"galley/api"
	"galley/hyph"
)

func sizeIs(t *testing.T, h *hyph.Hyph, want int) {
	t.Helper()
	if n := h.Size(); n != want {
		t.Errorf("Size of %q = %d; want %d", h.Patterns(), n, want)
	}
}

func TestP706(t *testing.T) {
	h := hyph.New()
	sizeIs(t, h, 1)
	for _, x := range []struct {
		pattern string
		size    int
	}{
		{"1a", 2},
		{"abc", 4},
		{"a1b", 4},   // begins one that is there
		{"abd", 5},   // shares ab
		{"xyz", 8},   // shares no beginning but the empty one
		{"bc", 10},   // ends one that is there
		{".ab", 13},  // a point is a sign
		{".a9.", 14}, // at the end, too; a digit is none
		{"abc.", 15},
		{"3.b", 16},
		{longest, 76}, // shares abc
		{"." + two + ".", 76 + 62},
	} {
		tell(t, h, x.pattern)
		sizeIs(t, h, x.size)
	}
	for _, text := range []string{"a", "9xyz", "q.q", "qQ", "11q", "q11", longest + "q", ""} {
		if e := h.Pattern(text); e == api.OK {
			t.Errorf("Pattern(%q) = %d", text, e)
		}
		sizeIs(t, h, 76+62)
	}
	tell(t, h, "q-q-q", "*qqqq")
	sizeIs(t, h, 76+62)
	sizeIs(t, told(t, example()...), 1+4+2+1+1+2+1+3+2+2)
}

func TestP706Random(t *testing.T) {
	r := &random{706}
	for range 300 {
		h, p := hyph.New(), plainly()
		for _, text := range r.patterns(1+r.below(60), 6, 3) {
			tell(t, h, text)
			p.pattern(text)
			if r.below(4) == 0 {
				sizeIs(t, h, p.size())
			}
		}
		sizeIs(t, h, p.size())
	}
}
