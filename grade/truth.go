package grade

import (
	"iter"

	"blockworks/api"
)

// pair is two points, the lesser number first.
type pair struct{ a, b int }

// areNext returns whether the points are next to one another. The centre is next to all corners; and as corners go round, those next to an odd one are even.
func (p pair) areNext() bool { return p.a == 0 || (p.b-p.a)%2 == 1 }

// steps returns from how many points to the next one it is from one point to the other one: opposite corners are both next to the centre.
func (p pair) steps() int {
	if p.areNext() {
		return 1
	}
	return 2
}

// pairs returns all pairs of points, in their order.
func pairs(yield func(pair) bool) {
	for a := range api.GradePoints {
		for b := a + 1; b < api.GradePoints; b++ {
			if !yield(pair{a, b}) {
				return
			}
		}
	}
}

// fits returns whether a point differs little enough from those before it that are next to it.
func (b block) fits(point, step int) bool {
	for before := range point {
		if (pair{before, point}).areNext() && (b[point]-b[before]).far() > step {
			return false
		}
	}
	return true
}

// truthsOf returns the blocks of all truths.
func truthsOf(g api.Grade) iter.Seq[block] {
	return func(yield func(block) bool) {
		var b block
		var put func(point int) bool
		put = func(point int) bool {
			if point == len(b) {
				return yield(b)
			}
			for n := g.Points[point].Lo; n <= g.Points[point].Hi; n++ {
				b[point] = height(n)
				if b.fits(point, g.Step) && !put(point+1) {
					return false
				}
			}
			return true
		}
		put(0)
	}
}

// gap returns by how much a number of one span differs from one of the other span, at least.
func gap(a, b api.Span) int { return greatest(0, a.Lo-b.Hi, b.Lo-a.Hi) }

// firstClash returns the first two points that cannot both be right, and whether there are such. If there are none there is a truth: nothing bounds a point but spans, its own one and those some steps away, and two of these bounds leave it no number only if their spans clash.
func firstClash(g api.Grade) (pair, bool) {
	return first(search[pair]{pairs, func(p pair) bool {
		return gap(g.Points[p.a], g.Points[p.b]) > p.steps()*g.Step
	}})
}
