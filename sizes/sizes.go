// Package sizes is what several layers ask of what they measure: dimensions, glue that has an end, and how badly totals fill a size.
package sizes

import (
	"galley/api"
	"galley/scaled"
)

// Dimensions: are all of these some?
func Dimensions(numbers ...int) bool {
	for _, n := range numbers {
		if n < -api.MaxDimen || n > api.MaxDimen {
			return false
		}
	}
	return true
}

// Finite: does glue shrink with an end? (Where it doesn't, any line and any page would be wide enough for all.)
func Finite(g api.Glue) bool { return g.Shrink == 0 || g.ShrinkOrder == 0 }

// Badness: of totals that are to come to a size; or they are too full, and can't shrink so much.
func Badness(t api.Totals, size int) (badness int, full bool) {
	by := size - t.Nat
	switch {
	case by == 0 || by > 0 && endless(t.Stretch):
		return 0, false
	case by > 0:
		return badnessOf(by, t.Stretch[0]), false
	case -by > t.Shrink[0]:
		return 0, true
	}
	return badnessOf(-by, t.Shrink[0]), false
}

// endless: is there something of an order above 0?
func endless(stretch [4]int) bool { return [3]int(stretch[1:]) != [3]int{} }

// badnessOf: sums may be greater than scaled's numbers.
func badnessOf(by, sum int) int {
	b, _ := scaled.Badness(min(by, api.MaxNumber), min(max(sum, -1), api.MaxNumber))
	return b
}
