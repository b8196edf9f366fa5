package words_test

import (
	"bytes"
	"strings"
	"testing"

	"galley/api"
	"galley/words"
)

func lettersAre(t *testing.T, s words.Setup, text, want string) {
	t.Helper()
	if c, e := words.Letters(row(s, text), s); string(c) != want || e != api.OK {
		t.Errorf("Letters of %s: %q, %d; want %q", text, c, e, want)
	}
}

func lettersNone(t *testing.T, s words.Setup, text string) {
	t.Helper()
	if c, e := words.Letters(row(s, text), s); len(c) != 0 || e != api.ErrNone {
		t.Errorf("Letters of %s: %q, %d; want %d", text, c, e, api.ErrNone)
	}
}

func TestP84Letters(t *testing.T) {
	s := setup(example(), example())
	lettersAre(t, s, "fila", "fila")
	lettersAre(t, s, "\x0c[fi]la", "fila")
	lettersAre(t, s, "'f'i(3)'\x0c[la]", "fila")
	lettersAre(t, s, "FiLa", "fila")
	lettersAre(t, s, "A[Bc]", "bc")
	lettersAre(t, s, "l(5)(6)a(7)", "la")
	lettersAre(t, s, "l", "l")
	lettersAre(t, s, strings.Repeat("la", 1000), strings.Repeat("la", 1000))
	long := strings.Repeat("l", 63)
	lettersAre(t, s, strings.Repeat("l["+long+"]", 2000), strings.Repeat(long, 2000))
	// Neither a hyphen nor Upper has a part, nor how many letters there are.
	s.Hyphen[0], s.Upper, s.Left, s.Right = -1, false, 63, 63
	lettersAre(t, s, "Fila", "fila")
	s.Lower['l'], s.Lower['\xff'], s.Lower['1'] = 'z', 'q', 'x'
	lettersAre(t, s, "l[l\xff1]\xff1al", "zqxqxaz")
}

func TestP84None(t *testing.T) {
	s := setup(example(), example())
	for _, text := range []string{
		"", "(3)", "(3)la", "_la", "_", "-", "-la", "l-a", "la-", "l[l-]", "la[-a]", "l[l-a]", "\"l\"a", "\"la", "l'a", "l\"a", "'la", "la_", "la(3/1)", "la(3/2)",
		"l%", "l:}", "l;}", "l#", "l{||}", "{||}", "l{-||a}", "l@", "l~}", "l!", "!l", "l$", "l&", "l^}", "l1", "1", "1[1]", "l\xff",
	} {
		lettersNone(t, s, text)
		breaksNone(t, s, text, []int{0, -1}, api.ErrNone)
		breaksNone(t, s, text, nil, api.ErrNone)
	}
	lettersNone(t, many(0), "la")
	s.Lower['l'] = 'L'
	lettersNone(t, s, "la")
	lettersNone(t, s, "al")
}

func TestP84Random(t *testing.T) {
	r := &random{84}
	found := 0
	for range 3000 {
		s := r.setup()
		l := r.nodes(s, r.below(len(s.Fonts)), 6)
		if r.chance(4) {
			l = r.row(s)
		}
		c, e := words.Letters(l, s)
		want, e2 := plainAll(l, s)
		if !bytes.Equal(c, want) || e != e2 {
			t.Errorf("Letters of %s: %q, %d; want %q, %d", told(s, l), c, e, want, e2)
		}
		if e == api.OK {
			found++
		}
	}
	if found < 500 {
		t.Errorf("only %d words", found)
	}
}
