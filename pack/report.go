package pack

import (
	"strconv"

	"galley/api"
	"galley/scaled"
)

// Report: what there is to say of a box, if something is.
func Report(down bool, sign, bad, over, limit, fuzz int) string {
	box, size := "hbox", "wide"
	if down {
		box, size = "vbox", "high"
	}
	if tooFull(sign, over, limit, fuzz) {
		return "Overfull " + box + " (" + scaled.Print(over) + "pt too " + size + ")"
	}
	if word := verdict(sign, bad, over, limit); word != "" {
		return word + " " + box + " (badness " + strconv.Itoa(bad) + ")"
	}
	return ""
}

// tooFull: so much that it is told?
func tooFull(sign, over, limit, fuzz int) bool {
	// One who asks for every bad box is told of the least excess, too.
	return (sign == api.Shrinking || sign == api.Still) && over > 0 && (over > fuzz || limit < 100)
}

// verdict: of a box that isn't too full, but set badly.
func verdict(sign, bad, over, limit int) string {
	if over > 0 || bad <= limit {
		return ""
	}
	switch sign {
	case api.Shrinking:
		return "Tight"
	case api.Still, api.Stretching:
		if bad <= 100 {
			return "Loose"
		}
		return "Underfull"
	}
	return ""
}
