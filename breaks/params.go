package breaks

import (
	"galley/api"
	"galley/glue"
	"galley/sizes"
)

// within: are all of these from -most to most?
func within(most int, numbers ...int) bool {
	for _, n := range numbers {
		if n < -most || n > most {
			return false
		}
	}
	return true
}

func rightNumbers(p api.Params) bool {
	return within(api.MaxNumber,
		p.Pretolerance, p.Tolerance, p.LinePenalty, p.HyphenPenalty, p.ExHyphenPenalty,
		p.AdjDemerits, p.DoubleHyphenDemerits, p.FinalHyphenDemerits, p.Looseness, p.HangAfter,
	) && within(api.MaxDimen, p.Hsize, p.HangIndent, p.Emergency)
}

func rightShape(shape [][2]int) bool {
	if len(shape) > api.MaxNodes {
		return false
	}
	for _, line := range shape {
		if !within(api.MaxDimen, line[0], line[1]) {
			return false
		}
	}
	return true
}

func rightSide(g api.Glue) bool { return glue.Check(g) == api.OK && sizes.Finite(g) }

// widthOf: of a line from 1 on, of parameters that may be.
func widthOf(p api.Params, line int) (width, indent int) {
	if lines := len(p.Shape); lines > 0 {
		shape := p.Shape[min(line, lines)-1]
		return shape[1], shape[0]
	}
	if !hangs(p.HangAfter, line) {
		return p.Hsize, 0
	}
	return p.Hsize - max(p.HangIndent, -p.HangIndent), max(p.HangIndent, 0)
}

// hangs: is a line one of those that HangIndent is for? (Where that is 0 it makes no odds.)
func hangs(after, line int) bool {
	if after < 0 {
		return line <= -after
	}
	return line > after
}

// widthsOf: of so many lines; the last one of the answer is that of all lines behind it, too.
func widthsOf(p api.Params, lines int) []int {
	widths := make([]int, lines)
	for i := range widths {
		widths[i], _ = widthOf(p, i+1)
	}
	last := lines - 1
	for last > 0 && widths[last-1] == widths[last] {
		last--
	}
	return widths[:last+1]
}
