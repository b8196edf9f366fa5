package ligkern

import (
	"iter"

	"galley/api"
	"galley/font"
)

// code: of a mark: a character's own, or end.
type code int16

const (
	codes      = 256       // how many characters a byte can name
	end   code = codes     // of an end of a word: of Left ahead of the place, of Right behind it, so one does for both
	marks      = codes + 1 // how many marks there may be on either side
)

// Skips, ops and tags that mean more than their number.
const (
	lastSkip = 128 // the last step of a program; above it a step only leads to another place
	edgeSkip = 255 // of the first step: it names the boundary character; of the last one: it leads to Left's
	kernOp   = 128 // from here on it is a kern
	withTag  = 1   // of a character that has a program
)

// boundary: the boundary character, or none.
func boundary(f api.Font) int {
	if len(f.Steps) == 0 || f.Steps[0].Skip != edgeSkip {
		return none
	}
	return int(f.Steps[0].Next)
}

// target: the place to which a step leads, that does nothing else.
func target(s api.Step) int { return codes*int(s.Op) + int(s.Rest) }

// beginning: the place of a mark's first step.
func beginning(f api.Font, x code) (at int, found bool) {
	if x == end {
		at, found = leftBeginning(f)
	} else {
		at, found = charBeginning(f, byte(x))
	}
	// The first step may lead past the end, as it has this place for the boundary character alone.
	return at, found && at < len(f.Steps)
}

func leftBeginning(f api.Font) (int, bool) {
	if len(f.Steps) == 0 {
		return 0, false
	}
	last := f.Steps[len(f.Steps)-1]
	return target(last), last.Skip == edgeSkip
}

func charBeginning(f api.Font, c byte) (int, bool) {
	m, _ := font.Metric(f, c)
	if m.Tag != withTag {
		return 0, false
	}
	if s := f.Steps[m.Rest]; s.Skip > lastSkip {
		return target(s), true
	}
	return m.Rest, true
}

// steps: those of a mark's that say something. The font must be one: then behind each step that is not the last of its
// program there is another one.
func steps(f api.Font, x code) iter.Seq[api.Step] {
	return func(yield func(api.Step) bool) {
		at, more := beginning(f, x)
		for more {
			s := f.Steps[at]
			if s.Skip <= lastSkip && !yield(s) {
				return
			}
			at += int(s.Skip) + 1
			more = s.Skip < lastSkip
		}
	}
}
