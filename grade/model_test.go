package grade_test

import (
	"math/bits"
	"slices"

	"blockworks/api"
)

// The model works each answer out once more, as slowly and as directly as the document's words allow: it goes through all truths.

func span(lo, hi int) api.Span { return api.Span{Lo: lo, Hi: hi} }

func inside(n int, s api.Span) bool { return s.Lo <= n && n <= s.Hi }

func size(set int) int { return bits.OnesCount(uint(set)) }

func has(set, n int) bool { return set>>n&1 == 1 }

// truth is by how much each point truly differs from the mark.
type truth [5]int

// beside are the points that are next to one another.
var beside = [][2]int{{0, 1}, {0, 2}, {0, 3}, {0, 4}, {1, 2}, {2, 3}, {3, 4}, {4, 1}}

func (t truth) keepsTo(step int) bool {
	for _, b := range beside {
		if d := t[b[0]] - t[b[1]]; d > step || -d > step {
			return false
		}
	}
	return true
}

func (t truth) isOf(g api.Grade) bool {
	for p, n := range t {
		if !inside(n, g.Points[p]) {
			return false
		}
	}
	return t.keepsTo(g.Step)
}

func (t truth) off() int {
	off := 0
	for _, n := range t {
		off = max(off, n, -n)
	}
	return off
}

func (t truth) varies() int {
	varies := 0
	for _, n := range t {
		for _, m := range t {
			varies = max(varies, n-m)
		}
	}
	return varies
}

func (t truth) keeps(l api.GradeLimit) bool { return t.off() <= l.Off && t.varies() <= l.Varies }

func (t truth) grade(limits []api.GradeLimit) int {
	for n, l := range limits {
		if t.keeps(l) {
			return n
		}
	}
	return len(limits)
}

func (t truth) lapped(level int) truth {
	for p, n := range t {
		if n > level {
			t[p] = level
		}
	}
	return t
}

// model is a grade, and all its truths.
type model struct {
	g      api.Grade
	truths []truth
}

func modelOf(g api.Grade) model {
	m := model{g: g}
	s := g.Points
	for a := s[0].Lo; a <= s[0].Hi; a++ {
		for b := s[1].Lo; b <= s[1].Hi; b++ {
			for c := s[2].Lo; c <= s[2].Hi; c++ {
				for d := s[3].Lo; d <= s[3].Hi; d++ {
					for e := s[4].Lo; e <= s[4].Hi; e++ {
						if t := (truth{a, b, c, d, e}); t.keepsTo(g.Step) {
							m.truths = append(m.truths, t)
						}
					}
				}
			}
		}
	}
	return m
}

// span returns the span of a number of all truths, and whether each number of it is that of one.
func (m model) span(of func(truth) int) (s api.Span, all bool) {
	numbers := map[int]bool{}
	s = span(of(m.truths[0]), of(m.truths[0]))
	for _, t := range m.truths {
		n := of(t)
		numbers[n] = true
		s = span(min(s.Lo, n), max(s.Hi, n))
	}
	return s, len(numbers) == s.Hi-s.Lo+1
}

func (m model) point(p int) (api.Span, bool) { return m.span(func(t truth) int { return t[p] }) }

func (m model) grades() int {
	set := 0
	for _, t := range m.truths {
		set |= 1 << t.grade(m.g.Limits)
	}
	return set
}

func (m model) sure(grade int) int {
	good := 0
	for _, t := range m.truths {
		if t.grade(m.g.Limits) <= grade {
			good++
		}
	}
	switch good {
	case 0:
		return api.GradeNever
	case len(m.truths):
		return api.GradeAlways
	}
	return api.GradePerhaps
}

func (m model) lap(grade int) [2]any {
levels:
	for level := 20; level >= -20; level-- {
		for _, t := range m.truths {
			if !t.lapped(level).keeps(m.g.Limits[grade]) {
				continue levels
			}
		}
		return number(level)
	}
	return none()
}

// left returns how many grades are left at most if a point is measured.
func (m model) left(point int) int {
	grades := map[int]int{}
	for _, t := range m.truths {
		grades[t[point]] |= 1 << t.grade(m.g.Limits)
	}
	left := 0
	for _, set := range grades {
		left = max(left, size(set))
	}
	return left
}

func (m model) ask() [3]any {
	best := 0
	for p := range 5 {
		if m.left(p) < m.left(best) {
			best = p
		}
	}
	return both(best, m.left(best))
}

func (m model) clash() [3]any {
	if len(m.truths) > 0 {
		return noPair()
	}
	for a := range 5 {
		for b := a + 1; b < 5; b++ {
			if !meet(m.g, a, b) {
				return both(a, b)
			}
		}
	}
	panic("no two points clash, and there is no truth")
}

// meet returns whether two points can both be right if all others are any integers. If those can be at all they also can be from the lesser of the two to the greater one.
func meet(g api.Grade, a, b int) bool {
	for n := g.Points[a].Lo; n <= g.Points[a].Hi; n++ {
		for k := g.Points[b].Lo; k <= g.Points[b].Hi; k++ {
			var t truth
			var put [5]bool
			t[a], put[a], t[b], put[b] = n, true, k, true
			if fill(t, put, g.Step, span(min(n, k), max(n, k))) {
				return true
			}
		}
	}
	return false
}

// fill returns whether the points that are not put down yet can be put down within a span.
func fill(t truth, put [5]bool, step int, s api.Span) bool {
	for _, b := range beside {
		if d := t[b[0]] - t[b[1]]; put[b[0]] && put[b[1]] && (d > step || -d > step) {
			return false
		}
	}
	p := slices.Index(put[:], false)
	if p < 0 {
		return true
	}
	put[p] = true
	for t[p] = s.Lo; t[p] <= s.Hi; t[p]++ {
		if fill(t, put, step, s) {
			return true
		}
	}
	return false
}

// chance is a row of numbers that look random and are always the same.
type chance uint64

func (c *chance) below(n int) int {
	*c = *c*6364136223846793005 + 1442695040888963407
	return int(uint64(*c) >> 33 % uint64(n))
}

func (c *chance) between(lo, hi int) int { return lo + c.below(hi-lo+1) }

// around returns a span within -GradeMost to GradeMost that contains n, and is at most so wide.
func (c *chance) around(n, wide int) api.Span {
	lo := n - c.between(0, wide)
	hi := n + c.between(0, wide-(n-lo))
	return span(max(lo, -api.GradeMost), min(hi, api.GradeMost))
}

// block returns a grade, and what truly is so of it if no point was misread.
func (c *chance) block(misread bool) (g api.Grade, is truth) {
	g.Step = c.between(0, []int{2, 4, api.GradeStep}[c.below(3)])
	is = c.truth(g.Step)
	wide := []int{0, 2, 3, 4, api.GradeWide}[c.below(5)]
	for p, n := range is {
		if misread && c.below(4) == 0 {
			n = max(-api.GradeMost, min(api.GradeMost, n+c.between(-2*g.Step-2, 2*g.Step+2)))
		}
		g.Points[p] = c.around(n, wide)
	}
	g.Limits = c.limits(is)
	return g, is
}

// truth returns points of which those next to one another differ by so little.
func (c *chance) truth(step int) truth {
	for {
		centre := c.between(-[]int{3, 8, 20}[c.below(3)], []int{3, 8, 20}[c.below(3)])
		is := truth{centre}
		for p := 1; p < 5; p++ {
			is[p] = max(-api.GradeMost, min(api.GradeMost, centre+c.between(-step, step)))
		}
		if is.keepsTo(step) {
			return is
		}
	}
}

// limits returns limits of grades, some of which are near to what is so.
func (c *chance) limits(is truth) []api.GradeLimit {
	var list []api.GradeLimit
	for range c.between(1, api.GradeGrades) {
		list = append(list, api.GradeLimit{
			Off:    max(0, min(api.GradeMost, is.off()+c.between(-4, 6))),
			Varies: max(0, min(api.GradeMost, is.varies()+c.between(-4, 6))),
		})
	}
	if c.below(4) == 0 {
		list[c.below(len(list))] = api.GradeLimit{Off: c.between(0, api.GradeMost), Varies: c.between(0, api.GradeMost)}
	}
	return rising(list)
}

// rising returns limits each of which is at least the one before it.
func rising(list []api.GradeLimit) []api.GradeLimit {
	for i := range list[1:] {
		list[i+1].Off = max(list[i].Off, list[i+1].Off)
		list[i+1].Varies = max(list[i].Varies, list[i+1].Varies)
	}
	return list
}
