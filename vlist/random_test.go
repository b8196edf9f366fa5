package vlist_test

import "galley/api"

// random: numbers, the same ones each time.
type random struct{ state uint64 }

func (r *random) below(n int) int {
	r.state = r.state*6364136223846793005 + 1442695040888963407
	return int(r.state>>33) % n
}

func (r *random) chance(n int) bool { return r.below(n) == 0 }

func (r *random) from(low, high int) int { return low + r.below(high-low+1) }

func (r *random) of(l ...int) int { return l[r.below(len(l))] }

// glue: such as a column may have; more often than not as it stands between lines.
func (r *random) glue() api.Glue {
	switch r.below(10) {
	case 0:
		return api.Glue{Nat: r.from(-4, 4), Stretch: r.from(-3, 9), Shrink: r.from(-3, 5)}
	case 1:
		return api.Glue{Nat: r.from(0, 4), Stretch: r.from(-1, 3), StretchOrder: r.below(4)}
	case 2:
		return api.Glue{Nat: r.from(0, 12), Stretch: r.from(0, 3), ShrinkOrder: r.below(4)}
	}
	return api.Glue{Nat: r.from(1, 4), Stretch: r.from(0, 9), Shrink: r.from(0, 4)}
}

func (r *random) text() string { return []string{"", "a", "b", "c", "dd"}[r.below(5)] }

// item: of a column.
func (r *random) item() []api.Node {
	switch r.below(16) {
	case 0, 1, 2:
		return box(r.from(5, 9), r.from(0, 3), char())
	case 3:
		return vbox(r.from(-2, 9), r.from(-2, 9), col("gb"), mark("within"))
	case 4:
		return one(api.Node{Kind: api.Rule, W: 5, Sub: 2})
	case 5:
		return rule(r.from(0, 9), r.from(-3, 3))
	case 6, 7, 8, 9:
		return glued(r.glue())
	case 10:
		return kern(r.from(-6, 9))
	case 11, 12:
		return penalty(r.of(0, 50, -50, 100, 9999, 10000, -9999, -10000, -10001, r.from(-200, 200), r.from(-200, 200), r.from(-200, 200)))
	case 13:
		return mark(r.text())
	case 14:
		return special(r.text())
	}
	if r.chance(2) {
		return insert()
	}
	return insert(col("gb"), mark("within"))
}

// column: of so many items at most.
func (r *random) column(most int) []api.Node {
	var l []api.Node
	for range r.below(most + 1) {
		l = join(l, r.item())
	}
	return l
}

// long: a column of so many lines, as pages have them.
func (r *random) long(lines int) []api.Node {
	var l []api.Node
	for range lines {
		l = join(l, box(r.from(6, 9), r.from(0, 3)))
		switch r.below(6) {
		case 0:
			l = join(l, penalty(r.from(-200, 300)))
		case 1:
			l = join(l, mark(r.text()), insert())
		case 2:
			l = join(l, kern(r.from(0, 3)))
		}
		l = join(l, skip(r.from(1, 4), r.from(0, 3), r.from(0, 2)))
	}
	return l
}

// height: of a column, more often than not one that is about as high as a part of it.
func (r *random) height() int { return r.of(0, 5, 10, 20, 30, 40, 50, r.from(-3, 80), r.from(0, 60)) }

func (r *random) depth() int { return r.of(0, 1, 2, 3, 100, r.from(-5, 10)) }
