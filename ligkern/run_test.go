package ligkern_test

import (
	"bytes"
	"slices"
	"strconv"
	"strings"
	"testing"

	"galley/api"
	"galley/ligkern"
)

func TestP43Example(t *testing.T) {
	f := example()
	runs(t, "F", f, "fi", "\x0c2")
	runs(t, "F", f, "fl", "\x0d2")
	runs(t, "F", f, "ff", "f f")
	runs(t, "F", f, "av", "a 100 v")
	runs(t, "F", f, "affilavi", "a f \x0c2 l a 100 v i")
	runs(t, "F", f, "<fi>", "\x0c2")
	f = plain("afilv\x0c\x0d").with('f', lig('i', 3, 'l'), lig('l', 0, 13)).font()
	runs(t, "F, 3", f, "fi", "\x0d1 i")
}

func TestP43Pieces(t *testing.T) {
	l, e := ligkern.Run(example(), []byte("fiav"), false, false)
	want := []api.Piece{{Kind: 2, Char: 12, N: 2}, {Kind: 1, Char: 'a', N: 1}, {Kind: 8, Size: 100}, {Kind: 1, Char: 'v', N: 1}}
	if !slices.Equal(l, want) || e != api.OK {
		t.Errorf("Run = %v, %d; want %v", l, e, want)
	}
}

// ops: of a b, with z: what becomes of it in the word abd, where kerns tell which marks were looked at: a and z have 100,
// z and b 200, b and d 300, z and d 400, a and d 500; in the order of what stays: all that Op may be, but for its p.
func TestP43Ops(t *testing.T) {
	base := plain("abdz").with('b', kern('d', 2)).with('z', kern('b', 1), kern('d', 3))
	want := [4][3]string{
		{"z2 400 d", "z2 400 d", "z2 400 d"},
		{"z1 200 b 300 d", "z1 b 300 d", "z1 b 300 d"},
		{"a 100 z1 400 d", "a z1 400 d", "a z1 400 d"},
		{"a 100 z0 200 b 300 d", "a z0 200 b 300 d", "a z0 b 300 d"},
	}
	for op := range 128 {
		f := base.with('a', lig('b', byte(op), 'z'), kern('z', 0), kern('d', 4)).font()
		runs(t, "op "+strconv.Itoa(op), f, "abd", want[op%4][min(op/4, 2)])
	}
}

// The same of both ends; at the end there is nothing behind it.
func TestP43OpsEnds(t *testing.T) {
	last := plain("az").bounded('e').with('z', kern('e', 1))
	wantLast := [4][3]string{
		{"z1", "z1", "z1"},
		{"z1 200", "z1", "z1"},
		{"a 100 z0", "a z0", "a z0"},
		{"a 100 z0 200", "a z0 200", "a z0"},
	}
	first := plain("abz").with('z', kern('a', 1), kern('b', 3)).with('a', kern('b', 2))
	wantFirst := [4][3]string{
		{"z1 400 b", "z1 400 b", "z1 400 b"},
		{"z0 200 a 300 b", "z0 a 300 b", "z0 a 300 b"},
		{"100 z1 400 b", "z1 400 b", "z1 400 b"},
		{"100 z0 200 a 300 b", "z0 200 a 300 b", "z0 a 300 b"},
	}
	for op := range 128 {
		f := last.with('a', lig('e', byte(op), 'z'), kern('z', 0)).font()
		runs(t, "Right, op "+strconv.Itoa(op), f, "a>", wantLast[op%4][min(op/4, 2)])
		runs(t, "no Right, op "+strconv.Itoa(op), f, "a", "a")
		f = first.with(-1, lig('a', byte(op), 'z'), kern('z', 0)).font()
		runs(t, "Left, op "+strconv.Itoa(op), f, "<ab", wantFirst[op%4][min(op/4, 2)])
		runs(t, "no Left, op "+strconv.Itoa(op), f, "ab", "a 300 b")
	}
}

// Of both ends alone; what is put in stands for no letter.
func TestP43Empty(t *testing.T) {
	for name, f := range map[string]api.Font{"no characters": plain("").font(), "F": example(), "an edge": plain("").bounded('e').font()} {
		for _, word := range []string{"", "<", ">", "<>"} {
			runs(t, name, f, word, "")
		}
	}
	base := plain("z").bounded('e').with('z', kern('e', 1))
	want := [4][3]string{
		{"z0", "z0", "z0"},
		{"z0 200", "z0", "z0"},
		{"100 z0", "z0", "z0"},
		{"100 z0 200", "z0 200", "z0"},
	}
	for op := range 128 {
		f := base.with(-1, lig('e', byte(op), 'z'), kern('z', 0)).font()
		runs(t, "op "+strconv.Itoa(op), f, "<>", want[op%4][min(op/4, 2)])
		for _, word := range []string{"", "<", ">"} {
			runs(t, "op "+strconv.Itoa(op), f, word, "")
		}
	}
	runs(t, "a kern", plain("").bounded('e').with(-1, kern('e', 6)).font(), "<>", "700")
}

func TestP43Kerns(t *testing.T) {
	d := plain("ab").bounded('b').with(-1, kern('a', 1), kern('b', 2)).with('a', kern('a', 3), kern('b', 4)).with('b', kern('a', 299))
	f := d.font()
	runs(t, "kerns", f, "aab", "a 400 a 500 b")
	runs(t, "kerns", f, "<aab>", "200 a 400 a 500 b")
	runs(t, "kerns", f, "<a>", "200 a 500")
	runs(t, "kerns", f, "<ba", "300 b 30000 a")
	runs(t, "kerns", f, "b>", "b")
	runs(t, "kerns", f, "<>", "300")
	// One of the size 0 is one too, and one below 0.
	f.Kerns[3], f.Kerns[4] = 0, -1<<24
	runs(t, "kerns", f, "aab", "a 0 a -16777216 b")
}

// A kern stays where it is, whatever becomes of the marks behind it.
func TestP43KernStays(t *testing.T) {
	f := plain("abcz").with('a', kern('b', 0)).with('b', lig('c', 0, 'z')).with('c', lig('c', 2, 'z')).font()
	runs(t, "the mark behind it goes", f, "abc", "a 100 z2")
	runs(t, "the marks are others", f, "abcc", "a 100 z2 c")
	runs(t, "the marks are others", f, "ccab", "c z1 a 100 b")
}

// What was put in goes on, and stands for all that was taken away for it.
func TestP43Letters(t *testing.T) {
	f := plain("abcd").with('a', lig('a', 0, 'b')).with('b', lig('a', 0, 'c')).with('c', lig('a', 0, 'd'), lig('d', 0, 'a')).with('d', lig('a', 0, 'd'), lig('b', 1, 'a')).font()
	runs(t, "one by one", f, "a", "a")
	runs(t, "one by one", f, "aa", "b2")
	runs(t, "one by one", f, "aaa", "c3")
	runs(t, "one by one", f, "aaaa", "d4")
	runs(t, "one by one", f, "aaaaaaaaaaaa", "d12")
	runs(t, "one by one", f, "aaaab", "a4 b")
	runs(t, "one by one", f, "aaaaba", "a4 c2")
	runs(t, "one by one", f, strings.Repeat("a", 2000), "d2000")
	f = plain("ab").with('a', lig('b', 0, 'a')).font()
	runs(t, "the same character", f, "ab", "a2")
	runs(t, "the same character", f, "aabba", "a a3 a")
	f = plain("ab").with('a', lig('b', 11, 'b')).font()
	runs(t, "put in between", f, "abab", "a b0 b a b0 b")
}

// Left and Right may be taken away, and what comes in their stead is looked at.
func TestP43EndsGo(t *testing.T) {
	f := plain("abcz").bounded('e').with(-1, lig('a', 1, 'z')).with('z', lig('a', 0, 'c'), kern('e', 0)).with('b', lig('e', 2, 'z'), kern('z', 8)).font()
	runs(t, "both go", f, "<a>", "c1")
	runs(t, "both go", f, "<ab>", "c1 b 900 z0")
	runs(t, "both go", f, "<b>", "b 900 z0")
	runs(t, "without them", f, "ab", "a b")
	// The boundary character, put in, is a mark like others, and no Right.
	d := plain("abe").bounded('e').with('a', lig('e', 6, 'e')).with('e', kern('e', 0))
	runs(t, "its own character", d.font(), "a>", "a e0")
	runs(t, "its own character", d.with('b', lig('e', 11, 'e')).font(), "b>", "b e0")
	runs(t, "its own character", d.with('b', lig('e', 7, 'e')).font(), "b>", "b e0 100")
	runs(t, "its own character", d.with('b', lig('e', 7, 'e')).font(), "be>", "b e0 100 e 100")
}

func TestP43Chars(t *testing.T) {
	f := example()
	for c := range 256 {
		there := strings.IndexByte("afilv\x0c\x0d", byte(c)) >= 0
		for _, word := range [][]byte{{byte(c)}, {'a', byte(c)}, {byte(c), 'a'}, {'a', byte(c), 'a'}} {
			want := api.ErrChar
			if there {
				want = api.OK
			}
			if l, e := ligkern.Run(f, word, c%2 == 0, c%3 == 0); e != want || (len(l) != 0) != there {
				t.Errorf("Run of %v = %v, %d; want %d", word, l, e, want)
			}
		}
	}
	if l, e := ligkern.Run(plain("").font(), []byte{0}, true, true); len(l) != 0 || e != api.ErrChar {
		t.Errorf("Run of a font without characters = %v, %d; want ErrChar", l, e)
	}
	// The boundary character need not be there: then it is no letter.
	f = plain("a").bounded('e').with('a', kern('e', 0)).font()
	if l, e := ligkern.Run(f, []byte("ae"), true, true); len(l) != 0 || e != api.ErrChar {
		t.Errorf("Run with the boundary character = %v, %d; want ErrChar", l, e)
	}
}

func TestP43LongWords(t *testing.T) {
	f := plain("ab").font()
	for n, want := range map[int]api.Errno{1999: api.OK, 2000: api.OK, 2001: api.ErrSize, 4000: api.ErrSize, 1 << 20: api.ErrSize} {
		word := bytes.Repeat([]byte("a"), n)
		l, e := ligkern.Run(f, word, true, true)
		if e != want || len(l) != n && e == api.OK || len(l) != 0 && e != api.OK {
			t.Errorf("Run of %d letters = %d pieces, %d; want %d", n, len(l), e, want)
		}
		word[n-1] = 'x'
		if want == api.OK {
			want = api.ErrChar
		}
		if l, e := ligkern.Run(f, word, true, true); len(l) != 0 || e != want {
			t.Errorf("Run of %d letters, one not there = %d pieces, %d; want %d", n, len(l), e, want)
		}
	}
	// Many letters that become few are too many all the same.
	f = plain("a").with('a', lig('a', 0, 'a')).font()
	runs(t, "few", f, strings.Repeat("a", 2000), "a2000")
	if l, e := ligkern.Run(f, bytes.Repeat([]byte("a"), 2001), false, false); len(l) != 0 || e != api.ErrSize {
		t.Errorf("Run of 2001 letters that become one = %v, %d; want ErrSize", l, e)
	}
}

// counts asks how many pieces there are; 0: too many.
func counts(t *testing.T, name string, f api.Font, word string, left, right bool, want int) {
	t.Helper()
	wantE := api.OK
	if want == 0 {
		wantE = api.ErrSize
	}
	l, e := ligkern.Run(f, []byte(word), left, right)
	if len(l) != want || e != wantE {
		t.Errorf("%s: Run = %d pieces, %d; want %d, %d", name, len(l), e, want, wantE)
	}
}

func TestP43LongAnswers(t *testing.T) {
	a := strings.Repeat("a", 1000)
	f := plain("ab").bounded('e').with('a', kern('a', 0), kern('e', 0)).with(-1, kern('a', 0)).font()
	counts(t, "kerns", f, a, false, false, 1999)
	counts(t, "kerns", f, a, true, false, 2000)
	counts(t, "kerns", f, a, false, true, 2000)
	counts(t, "kerns", f, a, true, true, 0)
	counts(t, "kerns", f, a+"b", false, false, 2000)
	counts(t, "kerns", f, a+"bb", false, false, 0)
	counts(t, "kerns", f, a+"b", true, false, 0)
	counts(t, "kerns", f, a+"a", false, false, 0)
	counts(t, "kerns", f, a+a, true, true, 0)
	f = plain("abcd").with('a', lig('a', 11, 'b')).with('c', lig('d', 11, 'b')).font()
	counts(t, "ligatures", f, a, false, false, 1999)
	counts(t, "ligatures", f, a+"c", false, false, 2000)
	counts(t, "ligatures", f, a+"cc", false, false, 0)
	counts(t, "ligatures", f, a+"cd", false, false, 0)
	counts(t, "ligatures", f, a[1:]+"cd", false, false, 2000)
	counts(t, "ligatures", f, a[1:]+"ccd", false, false, 0)
	f = plain("ab").bounded('e').with('a', lig('e', 3, 'b')).with('b', kern('e', 0)).font()
	b := strings.Repeat("b", 2000)
	counts(t, "the end", f, b[2:]+"a", false, false, 1999)
	counts(t, "the end", f, b[2:]+"a", false, true, 0)
	counts(t, "the end", f, b[3:]+"a", false, true, 2000)
	counts(t, "the end", f, b[2:]+"b", false, true, 2000)
	counts(t, "the end", f, b, false, true, 0)
	f = plain("ab").bounded('e').with('a', lig('e', 11, 'b')).font()
	counts(t, "all passed at the end", f, b[2:]+"a", false, true, 2000)
	counts(t, "all passed at the end", f, b[1:]+"a", false, true, 0)
}

// growing: between two characters from 0 to n - 1 the one behind the greater of them is put in, and so on on both sides
// of it: between 0 and 1 there come 2^(n - 1) - 1.
func growing(n int) api.Font {
	d := plain(all()[:n+1])
	for x := range n {
		for y := range n {
			if x != y {
				d = d.with(x, lig(byte(y), 3, byte(max(x, y)+1)))
			}
		}
	}
	return d.font()
}

// A row that ends, though it would grow too great: it is not gone through to its end.
func TestP43Grows(t *testing.T) {
	runs(t, "growing 3", growing(3), "\x00\x01", "\x00 \x030 \x020 \x030 \x01")
	for _, n := range []int{1, 2, 3, 8, 11, 12, 13, 30, 64, 100} {
		f := growing(n)
		if e := ligkern.Check(f); e != api.OK {
			t.Fatalf("growing %d: Check = %d; want OK", n, e)
		}
		want, wantE := 0, api.ErrSize
		if n < 12 {
			want, wantE = 1<<(n-1)+1, api.OK
		}
		counts(t, "growing "+strconv.Itoa(n), f, "\x00\x01", false, false, want)
		if l, e := ligkern.Pair(f, 0, 1); len(l) != want || e != wantE {
			t.Errorf("growing %d: Pair = %d pieces, %d; want %d, %d", n, len(l), e, want, wantE)
		}
	}
}

// busy: a row of two that ends in 2^n steps, though no more than a ligature, or a kern, comes of it. Of the characters A
// and B and four kinds for each of n + 1 ranks: P makes B of A, Q B of B, R A of B, S A of A, each by two of the next
// rank. T and U are like P and Q, but at their end there is a kern.
func busy(n int) (f api.Font, kind func(string, int) byte) {
	kind = func(name string, rank int) byte { return byte(2 + 6*rank + strings.Index("PQRSTU", name)) }
	d := plain(all()[:2+6*(n+1)])
	two := func(name string, rank, x int, first, second string) {
		d = d.with(x, lig(kind(name, rank), 3, kind(first, rank+1)))
		d = d.with(1-x, lig(kind(name, rank), 2, kind(second, rank+1)))
	}
	for i := range n {
		two("P", i, 0, "P", "Q")
		two("Q", i, 1, "R", "P")
		two("R", i, 1, "R", "S")
		two("S", i, 0, "P", "R")
		two("T", i, 0, "P", "U")
		two("U", i, 1, "R", "T")
	}
	d = d.with(0, lig(kind("P", n), 0, 1), lig(kind("S", n), 0, 0), kern(kind("T", n), 0))
	d = d.with(1, lig(kind("Q", n), 0, 1), lig(kind("R", n), 0, 0), kern(kind("U", n), 1))
	return d.bounded(int(kind("P", 0))).font(), kind
}

// A row that would take more steps than any run can do ends all the same.
func TestP43Busy(t *testing.T) {
	for _, n := range []int{0, 1, 2, 3, 4, 5, 10, 40, 41} {
		f, kind := busy(n)
		word := string([]byte{0, kind("P", 0), kind("Q", 0), kind("R", 0), kind("S", 0)})
		name := "busy " + strconv.Itoa(n)
		if n == 0 {
			name = "not busy"
		}
		l, e := ligkern.Run(f, []byte(word), false, false)
		if want := []api.Piece{{Kind: api.Lig, N: 5}}; !slices.Equal(l, want) || e != api.OK {
			t.Errorf("%s: Run = %v, %d; want %v", name, l, e, want)
		}
		l, e = ligkern.Pair(f, 0, -1)
		if want := []api.Piece{{Kind: api.Lig, Char: 1, N: 1}}; !slices.Equal(l, want) || e != api.OK {
			t.Errorf("%s: Pair with Right = %v, %d; want %v", name, l, e, want)
		}
		l, e = ligkern.Run(f, slices.Concat([]byte{0}, bytes.Repeat([]byte{kind("S", 0)}, 1998), []byte{kind("T", 0)}), false, true)
		if len(l) != 3 || e != api.OK {
			t.Errorf("%s: Run of a long word = %v, %d; want a ligature, a kern and a ligature", name, l, e)
		} else if n := l[0].N + l[2].N; l[0].Kind != api.Lig || l[1].Kind != api.Kern || n != 2000 {
			t.Errorf("%s: Run of a long word = %v; want a ligature, a kern and a ligature, for 2000 letters", name, l)
		}
	}
}
