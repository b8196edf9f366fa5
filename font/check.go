package font

import "galley/api"

// Bounds of a font's numbers, and of how many it may have.
const (
	leastFix    = -1 << 24
	mostFix     = 1<<24 - 1
	leastDesign = 1 << 20
	mostDesign  = 1<<31 - 1
	mostSteps   = 32510
	mostKerns   = 256 * 128
	mostPieces  = 256
	mostParams  = 255
	leastSlant  = -1 << 31 // of the first param, which no size changes
	mostSlant   = 1<<31 - 1
)

// Skips and ops of a step that mean more than their number.
const (
	lastSkip = 128 // the last one of its program; above it the step only leads to another place
	edgeSkip = 255 // of the first step: it names the boundary character
	kernOp   = 128 // from here on it is a kern
)

// fix: may all of these be a font's numbers?
func fix(numbers ...int) bool {
	for _, n := range numbers {
		if n < leastFix || n > mostFix {
			return false
		}
	}
	return true
}

// Check: may it be?
func Check(f api.Font) api.Errno {
	// How many there are comes first: what follows goes only through what is not too long.
	if !bounded(f) || !numbered(f) || !charsRight(f) || !chainsEnd(f) || !stepsRight(f) || !piecesRight(f) {
		return api.ErrFont
	}
	return api.OK
}

// bounded: has it no more of anything than it may?
func bounded(f api.Font) bool {
	return f.First >= 0 && f.First < codes && len(f.Chars) <= codes-f.First &&
		len(f.Steps) <= mostSteps && len(f.Kerns) <= mostKerns &&
		len(f.Pieces) <= mostPieces && len(f.Params) <= mostParams
}

// numbered: are its design size, kerns and params numbers that may be?
func numbered(f api.Font) bool {
	if f.Design < leastDesign || f.Design > mostDesign || !fix(f.Kerns...) {
		return false
	}
	if len(f.Params) == 0 {
		return true
	}
	slant := f.Params[0]
	return slant >= leastSlant && slant <= mostSlant && fix(f.Params[1:]...)
}

// charsRight: with both ends there, two fonts of the same characters are the same.
func charsRight(f api.Font) bool {
	if len(f.Chars) == 0 {
		return f.First == 0
	}
	if f.Chars[0].Tag == missing || f.Chars[len(f.Chars)-1].Tag == missing {
		return false
	}
	for _, m := range f.Chars {
		if !charRight(f, m) {
			return false
		}
	}
	return true
}

func charRight(f api.Font, m api.Metric) bool {
	if m.Tag == missing {
		return m == api.Metric{Tag: missing}
	}
	return fix(m.W, m.H, m.D, m.Italic) && restRight(f, m)
}

// restRight: does the rest lead to what the tag says? (Of a program too: its place is one byte of the font's bytes.)
func restRight(f api.Font, m api.Metric) bool {
	if m.Rest < 0 || m.Rest >= codes {
		return false
	}
	switch m.Tag {
	case plain:
		return m.Rest == 0
	case program:
		return m.Rest < len(f.Steps)
	case greater:
		return there(f, byte(m.Rest))
	case built:
		return m.Rest < len(f.Pieces)
	}
	return false
}

// chainsEnd: does no chain of greater characters come back to one of its own? What an earlier one met isn't gone
// through again, as that one ended.
func chainsEnd(f api.Font) bool {
	var met [codes]int // by the chain of which character, from 1 on
	for first := range f.Chars {
		at := first
		for f.Chars[at].Tag == greater && met[at] == 0 {
			met[at] = first + 1
			at = f.Chars[at].Rest - f.First
		}
		if met[at] == first+1 {
			return false
		}
	}
	return true
}

func stepsRight(f api.Font) bool {
	for at := range f.Steps {
		if !stepRight(f, at) {
			return false
		}
	}
	return true
}

func stepRight(f api.Font, at int) bool {
	s := f.Steps[at]
	if s.Skip > lastSkip {
		return at == 0 && s.Skip == edgeSkip || codes*int(s.Op)+int(s.Rest) < len(f.Steps)
	}
	if s.Skip < lastSkip && at+int(s.Skip)+1 >= len(f.Steps) {
		return false
	}
	if !there(f, s.Next) && !boundary(f, s.Next) {
		return false
	}
	if s.Op < kernOp {
		return there(f, s.Rest)
	}
	return codes*int(s.Op-kernOp)+int(s.Rest) < len(f.Kerns)
}

// boundary: is it the character that stands for a word's end? It need not be there.
func boundary(f api.Font, c byte) bool {
	return f.Steps[0].Skip == edgeSkip && f.Steps[0].Next == c
}

func piecesRight(f api.Font) bool {
	for _, p := range f.Pieces {
		for _, c := range p[:3] {
			if c != 0 && !there(f, c) {
				return false
			}
		}
		if !there(f, p[3]) {
			return false
		}
	}
	return true
}
