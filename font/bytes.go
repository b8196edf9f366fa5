package font

import "galley/api"

// counts: the twelve halves at the bytes' beginning, in their order.
type counts struct {
	lf, lh, bc, ec, nw, nh, nd, ni, nl, nk, ne, np int
}

const (
	mostHalf    = 1<<15 - 1
	countsWords = 6 // in which the halves stand
	headerWords = 2 // that mean something
)

func (n counts) chars() int { return n.ec - n.bc + 1 }

// words: how many all of them come to.
func (n counts) words() int {
	return countsWords + n.lh + n.chars() + n.nw + n.nh + n.nd + n.ni + n.nl + n.nk + n.ne + n.np
}

// dimens: the tables in which characters' numbers stand, each once; characters have but places in them.
// The first number of each is 0; a width's place 0 says that the character is not there.
type dimens struct {
	widths, heights, depths, italics []int
}

// word: as it stands in the bytes.
type word [4]byte

func unsigned(w word) uint32 {
	return uint32(w[0])<<24 | uint32(w[1])<<16 | uint32(w[2])<<8 | uint32(w[3])
}

func signed(w word) int { return int(int32(unsigned(w))) }

// ofNumber is the inverse of both, as a number below 0 wraps round to the one that stands for it.
func ofNumber(n int) word { return word{byte(n >> 24), byte(n >> 16), byte(n >> 8), byte(n)} }

func stepOf(w word) api.Step { return api.Step{Skip: w[0], Next: w[1], Op: w[2], Rest: w[3]} }

func ofStep(s api.Step) word { return word{s.Skip, s.Next, s.Op, s.Rest} }

func piecesOf(w word) [4]byte { return w }

func ofPieces(p [4]byte) word { return p }
