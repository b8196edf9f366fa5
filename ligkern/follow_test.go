package ligkern_test

import (
	"slices"
	"strconv"
	"strings"
	"testing"

	"galley/api"
	"galley/ligkern"
)

func TestP44Pairs(t *testing.T) {
	f := example()
	pairs(t, "F", f, 'f', 'i', "\x0c2")
	pairs(t, "F", f, 'a', 'v', "a 100 v")
	pairs(t, "F", f, 'f', 'f', "f f")
	pairs(t, "F", f, -1, 'f', "f")
	pairs(t, "F", f, 'f', -1, "f")
	pairs(t, "F", f, -1, -1, "")
	f = plain("abz").bounded('e').with(-1, lig('a', 1, 'z'), kern('e', 1), kern('b', 2)).with('z', lig('a', 11, 'b'), kern('e', 3)).with('b', lig('e', 3, 'z')).font()
	pairs(t, "ends", f, -1, 'a', "z0 b0 a")
	pairs(t, "ends", f, -1, 'b', "300 b")
	pairs(t, "ends", f, -1, -1, "200")
	pairs(t, "ends", f, 'b', -1, "b z0 400")
	pairs(t, "ends", f, 'z', -1, "z 400")
	pairs(t, "ends", f, 'a', -1, "a")
	// Left and Right are of the marks, not of the word: of a pair of characters there are none.
	pairs(t, "ends", f, 'a', 'b', "a b")
	pairs(t, "ends", f, 'z', 'a', "z b0 a")
	for op := range 128 {
		f := plain("abz").with('a', lig('b', byte(op), 'z'), kern('z', 0)).with('z', kern('b', 1)).font()
		want := [4][3]string{
			{"z2", "z2", "z2"},
			{"z1 200 b", "z1 b", "z1 b"},
			{"a 100 z1", "a z1", "a z1"},
			{"a 100 z0 200 b", "a z0 200 b", "a z0 b"},
		}
		pairs(t, "op "+strconv.Itoa(op), f, 'a', 'b', want[op%4][min(op/4, 2)])
	}
}

// endings: those of so many fonts whose programs end.
func endings(seed uint64, most int) []api.Font {
	r := &random{seed}
	var l []api.Font
	for range most {
		if f := r.font(); ligkern.Check(f) == api.OK {
			l = append(l, f)
		}
	}
	return l
}

// Held against the chapter's words, of all words that come.
func TestP43Random(t *testing.T) {
	r := &random{3}
	for i, f := range endings(4, 3000) {
		for range 10 {
			word := r.word("abc", 12)
			left, right := r.below(2) == 0, r.below(2) == 0
			l, ends := ended(f, row(word, left, right), 1<<16)
			if !ends {
				t.Fatalf("font %d: %s goes on", i, word)
			}
			want, wantE := piecesOf(l), api.OK
			if len(want) > 2000 {
				want, wantE = nil, api.ErrSize
			}
			got, e := ligkern.Run(f, word, left, right)
			if !slices.Equal(got, want) || e != wantE {
				t.Fatalf("font %d: Run of %s, %v, %v = %s, %d; want %s; %v", i, word, left, right, show(got), e, show(want), f)
			}
		}
	}
}

func TestP44Random(t *testing.T) {
	for i, f := range endings(5, 2000) {
		for _, x := range []int{-1, 'a', 'b', 'c'} {
			for _, y := range []int{-1, 'a', 'b', 'c'} {
				l, _ := ended(f, pairRow(x, y), 1<<16)
				got, e := ligkern.Pair(f, x, y)
				if want := piecesOf(l); !slices.Equal(got, want) || e != api.OK {
					t.Fatalf("font %d: Pair of %d and %d = %s, %d; want %s; %v", i, x, y, show(got), e, show(want), f)
				}
			}
		}
	}
}

// Where the programs of all pairs end, the run of each word does; without ligatures all letters are left.
func TestP45Ends(t *testing.T) {
	r := &random{6}
	for i, f := range endings(7, 1500) {
		word := make([]byte, 2000)
		for j := range word {
			word[j] = r.pick("abc")
		}
		for n := range 4 {
			if _, e := ligkern.Run(f, word, n > 1, n%2 == 0); e != api.OK && e != api.ErrSize {
				t.Fatalf("font %d: Run of a long word: %d", i, e)
			}
		}
		short := word[:500]
		l, e := ligkern.Run(f, short, true, true)
		if e != api.OK || slices.ContainsFunc(l, func(p api.Piece) bool { return p.Kind == api.Lig }) {
			continue
		}
		chars := 0
		for _, p := range l {
			if p.Kind == api.Char {
				chars++
			}
		}
		if chars != len(short) {
			t.Fatalf("font %d: %d characters of %d letters, without ligatures", i, chars, len(short))
		}
	}
}

// Each letter of the word is in just one piece, in order; Char pieces are letters.
func TestP46Letters(t *testing.T) {
	r := &random{8}
	for i, f := range endings(9, 2000) {
		for range 8 {
			word := r.word("abc", 40)
			l, e := ligkern.Run(f, word, r.below(2) == 0, r.below(2) == 0)
			if e == api.ErrSize {
				continue
			}
			at := 0
			for _, p := range l {
				if p.Kind == api.Char && (p.N != 1 || at >= len(word) || word[at] != p.Char) {
					t.Fatalf("font %d: Run of %s = %s: the letter %d is another one", i, word, show(l), at)
				}
				if p.N < 0 || p.Kind == api.Kern && p.N != 0 || p.Kind != api.Kern && p.Size != 0 {
					t.Fatalf("font %d: Run of %s has the piece %v", i, word, p)
				}
				at += p.N
			}
			if at != len(word) || e != api.OK {
				t.Fatalf("font %d: Run of %s = %s, %d: that is %d letters", i, word, show(l), e, at)
			}
		}
	}
}

func TestP47Plain(t *testing.T) {
	letters := func(word string) string { return strings.Join(strings.Split(word, ""), " ") }
	for name, f := range map[string]api.Font{
		"no steps":         plain("abc").font(),
		"other steps":      plain("abcd").bounded('e').with('a', lig('d', 3, 'b')).with('d', lig('e', 0, 'a'), kern('a', 0)).with(-1, kern('d', 0), kern('e', 1)).font(),
		"steps of one end": plain("abc").bounded('e').with(-1, kern('e', 0)).font(),
	} {
		for _, word := range []string{"a", "b", "abc", "ccbbaa", strings.Repeat("cab", 666)} {
			runs(t, name, f, word, letters(word))
			runs(t, name, f, "<"+word+">", letters(word))
		}
	}
	r := &random{10}
	n := 0
	for i, f := range endings(11, 2000) {
		word := r.word("abc", 6)
		l := row(word, true, true)
		steps := false
		for j := range len(l) - 1 {
			_, found := stepOf(f, l[j].code, l[j+1].code)
			steps = steps || found
		}
		if steps {
			continue
		}
		n++
		got, e := ligkern.Run(f, word, true, true)
		if want := letters(string(word)); show(got) != want || e != api.OK {
			t.Fatalf("font %d: Run of %s = %s, %d; want just the letters", i, word, show(got), e)
		}
	}
	if n < 50 {
		t.Errorf("of words without steps there must be some: %d", n)
	}
}

func TestP48Pairs(t *testing.T) {
	for i, f := range endings(12, 2000) {
		for _, x := range "abc" {
			for _, y := range "abc" {
				l, e := ligkern.Run(f, []byte{byte(x), byte(y)}, false, false)
				p, e2 := ligkern.Pair(f, int(x), int(y))
				if !slices.Equal(l, p) || e != e2 {
					t.Fatalf("font %d: Run of %c%c = %s, %d; Pair = %s, %d", i, x, y, show(l), e, show(p), e2)
				}
			}
		}
		l, e := ligkern.Run(f, nil, true, true)
		p, e2 := ligkern.Pair(f, -1, -1)
		if !slices.Equal(l, p) || e != e2 {
			t.Fatalf("font %d: Run of both ends = %s, %d; Pair = %s, %d", i, show(l), e, show(p), e2)
		}
	}
}
