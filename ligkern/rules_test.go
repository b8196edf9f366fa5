package ligkern_test

import (
	"slices"
	"testing"

	"galley/api"
	"galley/ligkern"
)

// mixed: a font with something of all.
func mixed() api.Font {
	return plain("abz").bounded('e').with(-1, kern('a', 1)).with('a', lig('b', 3, 'z'), kern('z', 2)).with('z', lig('b', 11, 'a')).with('b', lig('e', 1, 'z')).font()
}

// roomy: a list with room behind it, which is marked.
func roomy[T any](l []T, x T) []T { return append(slices.Clone(l), x, x)[:len(l)] }

// What is handed in is not changed, nor the room behind it; the same is answered again.
func TestP1Pure(t *testing.T) {
	f, before := mixed(), mixed()
	f.Chars = roomy(f.Chars, api.Metric{W: 99})
	f.Steps = roomy(f.Steps, api.Step{Skip: 99})
	f.Kerns = roomy(f.Kerns, 99)
	word := roomy([]byte("abzab"), 99)
	for range 2 {
		runs(t, "mixed", f, "<"+string(word)+">", "200 a 300 z0 a0 b z a 300 z0 a0 z1")
		l, e := ligkern.Run(f, word, true, true)
		again, e2 := ligkern.Run(f, word, true, true)
		if !slices.Equal(l, again) || e != e2 {
			t.Errorf("Run = %s, %d, then %s, %d", show(l), e, show(again), e2)
		}
		pairs(t, "mixed", f, 'a', 'b', "a 300 z0 a0 b")
		finds(t, "mixed", f, 'a', 'b', lig('b', 3, 'z'))
		if n, e := ligkern.Boundary(f); n != 'e' || e != api.OK {
			t.Errorf("Boundary = %d, %d", n, e)
		}
	}
	if !same(f, before) || string(word) != "abzab" {
		t.Error("what was handed in was changed")
	}
	behind := f.Chars[:len(f.Chars)+2][len(f.Chars):]
	if behind[0].W != 99 || f.Steps[:len(f.Steps)+1][len(f.Steps)].Skip != 99 || f.Kerns[:len(f.Kerns)+1][len(f.Kerns)] != 99 || word[:6][5] != 99 {
		t.Error("the room behind what was handed in was changed")
	}
}

// What is answered shares nothing with what was handed in, nor with another answer.
func TestP1Share(t *testing.T) {
	f := mixed()
	word := []byte("ab")
	l, _ := ligkern.Run(f, word, false, false)
	p, _ := ligkern.Pair(f, 'a', 'b')
	clear(word)
	clear(f.Steps)
	clear(f.Kerns)
	clear(f.Chars)
	if show(l) != "a 300 z0 a0 b" || show(p) != show(l) {
		t.Errorf("answers share: %s, %s", show(l), show(p))
	}
	clear(l)
	_ = append(l, api.Piece{Kind: 99})
	if show(p) != "a 300 z0 a0 b" {
		t.Errorf("two answers share: %s", show(p))
	}
	runs(t, "after that", mixed(), "ab", "a 300 z0 a0 b")
}

// Empty lists mean the same as nil.
func TestP1Empty(t *testing.T) {
	f := plain("ab").font()
	for _, steps := range [][]api.Step{nil, {}} {
		f.Steps, f.Kerns, f.Pieces, f.Params = steps, []int{}, [][4]byte{}, []int{}
		for _, word := range [][]byte{nil, {}} {
			if l, e := ligkern.Run(f, word, true, true); len(l) != 0 || e != api.OK {
				t.Errorf("Run of nothing = %v, %d", l, e)
			}
		}
		runs(t, "no steps", f, "<ab>", "a b")
		finds(t, "no steps", f, -1, -1, api.Step{})
	}
}

// Calls at the same time do not meet.
func TestP1Together(t *testing.T) {
	f := mixed()
	done := make(chan string)
	for range 8 {
		go func() {
			l, _ := ligkern.Run(f, []byte("abzab"), true, true)
			done <- show(l)
		}()
	}
	for range 8 {
		if got := <-done; got != "200 a 300 z0 a0 b z a 300 z0 a0 z1" {
			t.Errorf("Run = %s", got)
		}
	}
}
