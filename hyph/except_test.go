package hyph_test

import (
	"slices"
	"strings"
	"testing"

	"galley/api"
	"galley/hyph"
)

// each: letters with a hyphen at each place.
func each(letters string) string { return strings.Join(strings.Split(letters, ""), "-") }

func TestP703Right(t *testing.T) {
	for _, text := range []string{
		"a", "z", "ab", "a-b", "table", "ta-ble", "t-a-b-l-e", "tabl-e", "t-able", "ab-cd-ef-gh-ij-kl-mn-op-qr-st-uv-wx-yz",
		longest, each(longest), longest[:1] + "-" + longest[1:], longest[:62] + "-" + longest[62:],
	} {
		h := hyph.New()
		if e := h.Except(text); e != api.OK || !slices.Equal(h.Exceptions(), []string{text}) {
			t.Errorf("Except(%q) = %d, %q", text, e, h.Exceptions())
		}
		if h.Size() != 1 || len(h.Patterns()) != 0 {
			t.Errorf("Except(%q): Size = %d, Patterns = %q", text, h.Size(), h.Patterns())
		}
	}
}

// What is no exception; it changes nothing.
func TestP703Wrong(t *testing.T) {
	h := told(t, "ta-ble", "1a")
	before := asked(h, "table", "a", "ab")
	for _, text := range append(slices.DeleteFunc(noWords(), func(text string) bool { return text == "a-b" }),
		"--", "---", "-a-", "a--b", "a---b", "-a-b", "a-b-", "a-b--", "--a-b", "a-b--c", "a-b-c--d", "-ta-ble", "ta-ble-", "ta--ble", "ta-blE", "Ta-ble", "ta-b1e", "ta-ble.",
		"ta=ble", "ta\u2010ble", "ta\u00adble", "ta- ble", "ta-\x00ble", "ta-\xffble", "*table",
		each(longest)+"-", "-"+each(longest), each(longest+"a"), longest+"-a", each(longest)+"a", "-"+longest, longest+"-",
		strings.Repeat("-", 1<<16), strings.Repeat("a-", 1<<16), strings.Repeat("a-", 1<<16)+"a",
	) {
		if e := h.Except(text); e != api.ErrPattern {
			t.Errorf("Except(%.70q) = %d; want ErrPattern", text, e)
		}
	}
	if after := asked(h, "table", "a", "ab"); !after.same(before) {
		t.Errorf("what is no exception changed %v into %v", before, after)
	}
}

func TestP703Bytes(t *testing.T) {
	for c := range 256 {
		for _, text := range []string{"?", "a?b", "?a", "a?", "a-?", "?-a", "a-?-b"} {
			text = strings.ReplaceAll(text, "?", string([]byte{byte(c)}))
			h, p := hyph.New(), plainly()
			if e, want := h.Except(text), p.except(text); e != want || !asked(h).same(p.asked()) {
				t.Errorf("Except(%q) = %d, %q; want %d", text, e, h.Exceptions(), want)
			}
		}
	}
}

// All short texts, each told to a Hyph of its own, and all to one.
func TestP703Short(t *testing.T) {
	all, plainAll := hyph.New(), plainly()
	for _, text := range texts("a-b.A", 6) {
		h, p := hyph.New(), plainly()
		if e, want := h.Except(text), p.except(text); e != want || !asked(h).same(p.asked()) {
			t.Errorf("Except(%q) = %d, %q; want %d", text, e, h.Exceptions(), want)
		}
		if e, want := all.Except(text), plainAll.except(text); e != want {
			t.Errorf("Except(%q), among others = %d; want %d", text, e, want)
		}
	}
	words := []string{"a", "ab", "aba", "abab", "bbbbb"}
	if a, want := asked(all, words...), plainAll.asked(words...); !a.same(want) {
		t.Errorf("all short exceptions: %v; want %v", a, want)
	}
}

// A word that is told again has the new hyphens alone.
func TestP703Again(t *testing.T) {
	h := told(t, "so-me")
	for _, text := range []string{"ta-ble", "t-able", "table", "t-a-b-l-e", "tabl-e", "tabl-e", "table", "ta-ble"} {
		if e := h.Except(text); e != api.OK || !slices.Equal(h.Exceptions(), []string{"so-me", text}) {
			t.Errorf("Except(%q) = %d, %q", text, e, h.Exceptions())
		}
		pointsAre(t, h, "table", 1, 1, plainly("*"+text).points("table", 1, 1)...)
	}
}

// They are ordered by their letters, wherever hyphens stand.
func TestP703Order(t *testing.T) {
	want := []string{"*a", "a-a", "a-ab", "*ab", "a-b-a", "ab-b", "*abc", "a-c", "*b", "b-a", "*ta", "t-ab", "*tabl", "ta-ble", "t-ables", "*z", "z-z", "*zzz"}
	shown := strings.Split(strings.ReplaceAll(strings.Join(want, " "), "*", ""), " ")
	r := &random{703}
	for range 50 {
		if got := told(t, r.mixed(want)...).Exceptions(); !slices.Equal(got, shown) {
			t.Fatalf("Exceptions = %q; want %q", got, shown)
		}
	}
	if got := hyph.New().Exceptions(); len(got) != 0 {
		t.Errorf("Exceptions of none = %q", got)
	}
}

func TestP703Random(t *testing.T) {
	r := &random{7030}
	for range 300 {
		var l []string
		for range 60 {
			l = append(l, r.exception(5, 2))
		}
		h, p := told(t, l...), plainly(l...)
		if got, want := h.Exceptions(), p.exceptions(); !slices.Equal(got, want) {
			t.Fatalf("Exceptions of %q = %q; want %q", l, got, want)
		}
	}
}

// As many as may be, and one more; of those that are there the hyphens may still be changed.
func TestP703Most(t *testing.T) {
	h := hyph.New()
	tell(t, h, "1a")
	for n := range 1000 {
		tell(t, h, "*"+counted(n), counted(n)[:1]+"-"+counted(n)[1:])
	}
	before := asked(h, "aaa", "table")
	if len(before.exceptions) != 1000 || before.exceptions[999] != "b-ml" {
		t.Errorf("%d exceptions, the last one %q", len(before.exceptions), before.exceptions[len(before.exceptions)-1])
	}
	for text, want := range map[string]api.Errno{
		counted(1000): api.ErrSize, "ta-ble": api.ErrSize, "a": api.ErrSize, "z-z": api.ErrSize, each(longest): api.ErrSize,
		"": api.ErrPattern, "-aaa": api.ErrPattern, "a--aa": api.ErrPattern, "table-": api.ErrPattern, "Table": api.ErrPattern, longest + "a": api.ErrPattern,
	} {
		if e := h.Except(text); e != want {
			t.Errorf("Except(%q) behind 1000 = %d; want %d", text, e, want)
		}
	}
	if after := asked(h, "aaa", "table"); !after.same(before) {
		t.Error("more than may be changed something")
	}
	tell(t, h, "aa-a", "*aab", "b-m-l", "ta2b")
	if l := h.Exceptions(); len(l) != 1000 || l[0] != "aa-a" || l[1] != "aab" || l[999] != "b-m-l" {
		t.Errorf("Exceptions = %q ..", l[:2])
	}
	pointsAre(t, h, "aaa", 1, 1, 2)
	pointsAre(t, h, "aab", 1, 1)
}
