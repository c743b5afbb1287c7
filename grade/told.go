package grade

import (
	"cmp"
	"iter"
	"math"
	"slices"

	"blockworks/api"
)

// told returns the span from the least to the greatest number that blocks have; there has to be a block.
func told(blocks iter.Seq[block], number func(block) int) api.Span {
	s := api.Span{Lo: math.MaxInt, Hi: math.MinInt}
	for b := range blocks {
		n := number(b)
		s = api.Span{Lo: min(s.Lo, n), Hi: max(s.Hi, n)}
	}
	return s
}

// unlike returns one block of those of each ends. Blocks of the same ends have the same shape, however they are lapped; and there are far fewer ends than blocks.
func unlike(blocks iter.Seq[block]) iter.Seq[block] {
	had := map[ends]bool{}
	var list []block
	for b := range blocks {
		if e := b.ends(); !had[e] {
			had[e] = true
			list = append(list, b)
		}
	}
	return slices.Values(list)
}

// scale is the limits of the grades, behind them one that each block keeps, and the grades of the shapes that were looked at.
type scale struct {
	limits []api.GradeLimit
	known  map[shape]int
}

// scaleOf returns the scale of the grades of a block. It works on a copy of the limits, as they are the caller's.
func scaleOf(g api.Grade) scale {
	limits := make([]api.GradeLimit, len(g.Limits)+1)
	grades := copy(limits, g.Limits)
	limits[grades] = api.GradeLimit{Off: api.GradeMost, Varies: 2 * api.GradeMost}
	return scale{limits, map[shape]int{}}
}

// grade returns the grade of blocks of a shape. As the same shapes come again and again, it is worked out once for each of them.
func (s scale) grade(of shape) int {
	grade, had := s.known[of]
	if !had {
		grade, _ = first(search[int]{upTo(len(s.limits)), func(n int) bool { return of.keeps(s.limits[n]) }})
		s.known[of] = grade
	}
	return grade
}

// grades returns the set of the grades that blocks have.
func (s scale) grades(blocks iter.Seq[block]) set {
	var found set
	for b := range unlike(blocks) {
		found = found.with(s.grade(shapeOf(plain{b})))
	}
	return found
}

// judge returns whether the grades that a block has in some truth are among those that are good enough: never, perhaps, or always.
func judge(grades, enough set) int {
	switch {
	case grades.isIn(enough):
		return api.GradeAlways
	case grades.meets(enough):
		return api.GradePerhaps
	}
	return api.GradeNever
}

// levelFor returns the greatest level such that all blocks, lapped to it, keep a limit, and whether there is one.
func levelFor(blocks iter.Seq[block], limit api.GradeLimit) (height, bool) {
	some := unlike(blocks)
levels:
	for level := height(api.GradeMost); level >= -api.GradeMost; level-- {
		for b := range some {
			if !shapeOf(lapped{plain{b}, level}).keeps(limit) {
				continue levels
			}
		}
		return level, true
	}
	return 0, false
}

// question is a point, and how many grades can be left if it is measured.
type question struct{ point, left int }

// bestQuestion returns the first question that leaves the fewest grades.
func bestQuestion(g api.Grade) question {
	by := scaleOf(g)
	var all []question
	for point := range api.GradePoints {
		all = append(all, question{point, by.mostLeft(g, point)})
	}
	return slices.MinFunc(all, func(a, b question) int { return cmp.Compare(a.left, b.left) })
}

// mostLeft returns how many grades are left, at most, if a point is measured. A number that it has in no truth leaves none.
func (s scale) mostLeft(g api.Grade, point int) int {
	most := 0
	for n := range numbersOf(g.Points[point]) {
		g.Points[point] = api.Span{Lo: n, Hi: n}
		most = greatest(most, s.grades(truthsOf(g)).size())
	}
	return most
}
