package ligkern_test

import (
	"slices"

	"galley/api"
)

// What the chapter's words say, done word for word: what the program answers is held against it.

// Ends of a word, among the characters.
const (
	left  = 256
	right = 257
)

// place: a mark of a row, and the kern behind it, if there is one.
type place struct {
	code   int
	n      int
	put    bool
	kerned bool
	size   int
}

// row: of a word, with its ends, or without.
func row(word []byte, withLeft, withRight bool) []place {
	var l []place
	if withLeft {
		l = append(l, place{code: left})
	}
	for _, c := range word {
		l = append(l, place{code: int(c), n: 1})
	}
	if withRight {
		l = append(l, place{code: right})
	}
	return l
}

// pairRow: of the two marks that two numbers name.
func pairRow(x, y int) []place {
	switch {
	case x < 0 && y < 0:
		return row(nil, true, true)
	case x < 0:
		return row([]byte{byte(y)}, true, false)
	case y < 0:
		return row([]byte{byte(x)}, false, true)
	}
	return row([]byte{byte(x), byte(y)}, false, false)
}

func stepsOf(f api.Font, x int) []api.Step {
	at, last := -1, len(f.Steps)-1
	elsewhere := func(s api.Step) int { return 256*int(s.Op) + int(s.Rest) }
	switch {
	case last < 0 || x == right:
	case x == left && f.Steps[last].Skip == 255:
		at = elsewhere(f.Steps[last])
	case x != left && f.Chars[x-f.First].Tag == 1:
		at = f.Chars[x-f.First].Rest
		if f.Steps[at].Skip > 128 {
			at = elsewhere(f.Steps[at])
		}
	}
	var l []api.Step
	for at >= 0 && at <= last {
		s := f.Steps[at]
		if s.Skip <= 128 {
			l = append(l, s)
		}
		at += int(s.Skip) + 1
		if s.Skip >= 128 {
			at = -1
		}
	}
	return l
}

func stepOf(f api.Font, x, y int) (api.Step, bool) {
	if y == right {
		y = -1
		if len(f.Steps) > 0 && f.Steps[0].Skip == 255 {
			y = int(f.Steps[0].Next)
		}
	}
	for _, s := range stepsOf(f, x) {
		if int(s.Next) == y {
			return s, true
		}
	}
	return api.Step{}, false
}

// ended: what stands in a row at the end; false, if that takes more than so many times.
func ended(f api.Font, l []place, times int) ([]place, bool) {
	at := 0
	for at+1 < len(l) {
		if times--; times < 0 {
			return nil, false
		}
		x, y := l[at], l[at+1]
		s, found := stepOf(f, x.code, y.code)
		if !found {
			at++
			continue
		}
		if s.Op >= 128 {
			l[at].kerned, l[at].size = true, f.Kerns[256*int(s.Op-128)+int(s.Rest)]
			at++
			continue
		}
		z := place{code: int(s.Rest), put: true}
		var made []place
		if s.Op/2%2 == 1 {
			made = append(made, x)
		} else {
			z.n += x.n
		}
		made = append(made, z)
		if s.Op%2 == 1 {
			made = append(made, y)
		} else {
			made[len(made)-1].n += y.n
		}
		l = slices.Concat(l[:at], made, l[at+2:])
		// x, or z in its stead, stands where x stood: the place is behind it.
		at += min(int(s.Op/4), int(s.Op/2%2+s.Op%2))
	}
	return l, true
}

// piecesOf: what stands in a row, but for its ends.
func piecesOf(l []place) []api.Piece {
	var pieces []api.Piece
	for _, m := range l {
		switch {
		case m.code >= left:
		case m.put:
			pieces = append(pieces, api.Piece{Kind: api.Lig, Char: byte(m.code), N: m.n})
		default:
			pieces = append(pieces, api.Piece{Kind: api.Char, Char: byte(m.code), N: m.n})
		}
		if m.kerned {
			pieces = append(pieces, api.Piece{Kind: api.Kern, Size: m.size})
		}
	}
	return pieces
}
