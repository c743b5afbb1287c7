package grade_test

import (
	"math"
	"reflect"
	"slices"
	"testing"

	"blockworks/api"
	"blockworks/grade"
)

// call is one call of a function of the package, as the list of all its results.
type call struct {
	name string
	do   func(g api.Grade) []any
}

// calls returns the calls of all functions, with a point and a grade for those that take one.
func calls(point, number int) []call {
	list := func(results ...any) []any { return results }
	return []call{
		{"Point", func(g api.Grade) []any { s, e := grade.Point(g, point); return list(s, e) }},
		{"Varies", func(g api.Grade) []any { s, e := grade.Varies(g); return list(s, e) }},
		{"Off", func(g api.Grade) []any { s, e := grade.Off(g); return list(s, e) }},
		{"Grades", func(g api.Grade) []any { n, e := grade.Grades(g); return list(n, e) }},
		{"Sure", func(g api.Grade) []any { n, e := grade.Sure(g, number); return list(n, e) }},
		{"Lap", func(g api.Grade) []any { n, e := grade.Lap(g, number); return list(n, e) }},
		{"Ask", func(g api.Grade) []any { p, n, e := grade.Ask(g); return list(p, n, e) }},
		{"Clash", func(g api.Grade) []any { a, b, e := grade.Clash(g); return list(a, b, e) }},
	}
}

// wantError fails unless a call returns the error, and zero values beside it (R2).
func wantError(t *testing.T, c call, g api.Grade, e api.Errno) {
	t.Helper()
	results := c.do(g)
	last := len(results) - 1
	for _, r := range results[:last] {
		if !reflect.ValueOf(r).IsZero() {
			t.Errorf("%s of %v: result %v beside an error", c.name, g, r)
		}
	}
	if results[last] != e {
		t.Errorf("%s of %v: error %v, want %v", c.name, g, results[last], e)
	}
}

// want fails unless the functions of some names return the error.
func want(t *testing.T, names []string, list []call, g api.Grade, e api.Errno) {
	t.Helper()
	for _, c := range list {
		if slices.Contains(names, c.name) {
			wantError(t, c, g, e)
		}
	}
}

// clone returns a grade that shares no memory with another one.
func clone(g api.Grade) api.Grade {
	g.Limits = slices.Clone(g.Limits)
	return g
}

// changes are ways to change a grade that begins as G, or as M; each one alone is enough to make it invalid.
func changes() []func(g *api.Grade) {
	list := []func(g *api.Grade){
		func(g *api.Grade) { g.Limits = nil },
		func(g *api.Grade) { g.Limits = []api.GradeLimit{} },
		func(g *api.Grade) { g.Limits = slices.Repeat([]api.GradeLimit{limit(2, 2)}, 5) },
		func(g *api.Grade) { g.Limits = slices.Repeat([]api.GradeLimit{limit(2, 2)}, 100000) },
	}
	// Of 2, 1 and 4, 3 and 8, 6 no number may be less than the one before it.
	for _, x := range []struct{ at, off, varies int }{{1, 1, 3}, {1, 0, 20}, {1, 4, 0}, {1, 20, 0}, {2, 3, 6}, {2, 2, 20}, {2, 8, 2}, {2, 20, 1}, {0, 5, 1}, {0, 2, 4}, {1, 9, 3}, {1, 4, 7}} {
		list = append(list, func(g *api.Grade) { g.Limits[x.at] = limit(x.off, x.varies) })
	}
	for _, n := range []int{math.MinInt, -21, -1, 21, 22, math.MaxInt} {
		for at := range 3 {
			list = append(list, func(g *api.Grade) { g.Limits[at].Off = n }, func(g *api.Grade) { g.Limits[at].Varies = n })
		}
		list = append(list, func(g *api.Grade) { g.Limits = []api.GradeLimit{limit(n, 2)} }, func(g *api.Grade) { g.Limits = []api.GradeLimit{limit(2, n)} })
	}
	for _, n := range []int{math.MinInt, -1, 11, math.MaxInt} {
		list = append(list, func(g *api.Grade) { g.Step = n })
	}
	for _, s := range []api.Span{
		span(1, 0), span(3, 2), span(0, -1), span(-20, -21), span(21, 20), span(20, -20), span(0, 7), span(-7, 0), span(-3, 4), span(-20, -13), span(13, 20), span(-20, 20), span(-21, -20), span(-21, -21), span(20, 21), span(21, 21), span(-21, -15), span(15, 21),
		span(math.MinInt, math.MaxInt), span(math.MaxInt, math.MinInt), span(math.MinInt, 0), span(0, math.MaxInt), span(math.MinInt, math.MinInt), span(math.MaxInt, math.MaxInt), span(0, math.MinInt), span(math.MaxInt, 0), span(math.MinInt, 3), span(3, math.MaxInt),
	} {
		for p := range 5 {
			list = append(list, func(g *api.Grade) { g.Points[p] = s })
		}
	}
	return list
}

// TestInvalid: the section Errors, R1, R2 and R8. A grade that is not valid comes before all other errors.
func TestInvalid(t *testing.T) {
	for _, change := range changes() {
		for _, g := range []api.Grade{gradeG(), gradeM()} {
			change(&g)
			for _, c := range slices.Concat(calls(0, 0), calls(-1, -1), calls(5, 4), calls(math.MinInt, math.MaxInt), calls(math.MaxInt, math.MinInt)) {
				wantError(t, c, g, api.ErrArg)
			}
		}
	}
}

// TestRange: the section Errors. What is out of range comes before a clash, and before there is none. There are as many grades as limits: to have none is no grade.
func TestRange(t *testing.T) {
	low := loose(exactly(0, 0, 0, 0, -9))
	four := gradeG()
	four.Limits = append(four.Limits, limit(9, 9))
	for _, g := range []api.Grade{gradeG(), gradeM(), low, four} {
		for _, point := range []int{math.MinInt, -1, 5, 6, math.MaxInt} {
			want(t, []string{"Point"}, calls(point, 0), g, api.ErrRange)
		}
		for _, n := range []int{math.MinInt, -1, len(g.Limits), len(g.Limits) + 1, 4, 5, math.MaxInt} {
			want(t, []string{"Sure", "Lap"}, calls(0, n), g, api.ErrRange)
		}
	}
}

// TestClashError: the section Errors. Without a truth all functions but Clash return ErrClash, also before there is none.
func TestClashError(t *testing.T) {
	for _, g := range []api.Grade{gradeM(), made(0, exactly(0, 0, 0, 0, 1), limit(0, 0), limit(0, 0), limit(20, 20)), made(10, exactly(-20, -20, -20, -20, -9), limit(0, 0), limit(0, 0), limit(0, 0)), made(1, points(span(0, 6), span(0, 0), span(0, 6), span(3, 3), span(0, 6)), limit(0, 0), limit(1, 1), limit(1, 1))} {
		for point := range 5 {
			for n := range 3 {
				want(t, []string{"Point", "Varies", "Off", "Grades", "Sure", "Lap", "Ask"}, calls(point, n), g, api.ErrClash)
			}
		}
		if a, b, e := grade.Clash(g); a >= b || e != api.OK {
			t.Errorf("Clash of %v: %d, %d, %v", g, a, b, e)
		}
	}
}

// TestNone: the section Errors. There may be no level, and nothing that clashes.
func TestNone(t *testing.T) {
	low := loose(exactly(0, 0, 0, 0, -9))
	want(t, []string{"Lap", "Clash"}, calls(0, 0), low, api.ErrNone)
	want(t, []string{"Clash"}, calls(0, 0), gradeG(), api.ErrNone)
}

// TestLimits: R7. What just keeps to each limit is valid.
func TestLimits(t *testing.T) {
	for _, s := range []api.Span{span(-20, -14), span(-20, -20), span(14, 20), span(20, 20), span(-3, 3), span(0, 6), span(-6, 0)} {
		for _, step := range []int{0, 10} {
			for _, limits := range [][]api.GradeLimit{{limit(0, 0)}, {limit(20, 20)}, {limit(0, 20)}, {limit(20, 0)}, {limit(0, 0), limit(0, 0), limit(0, 0), limit(0, 0)}, {limit(20, 20), limit(20, 20), limit(20, 20), limit(20, 20)}, {limit(0, 20), limit(20, 20)}, {limit(0, 0), limit(0, 1), limit(1, 1), limit(20, 20)}} {
				g := made(step, all(s.Lo, s.Hi), limits...)
				for p := range 5 {
					same(t, "Point", two(grade.Point(g, p)), two(s, api.OK))
				}
				last := len(limits) - 1
				m := modelOf(g)
				same(t, "Grades", two(grade.Grades(g)), number(m.grades()))
				same(t, "Sure", two(grade.Sure(g, last)), number(m.sure(last)))
				same(t, "Lap", two(grade.Lap(g, last)), m.lap(last))
				same(t, "Ask", three(grade.Ask(g)), m.ask())
				same(t, "Clash", three(grade.Clash(g)), noPair())
			}
		}
	}
	same(t, "the limits", []int{api.GradeGrades, api.GradePoints, api.GradeMost, api.GradeWide, api.GradeStep}, []int{4, 5, 20, 6, 10})
}

// TestNilAndEmpty: R3. Without limits a grade is not valid, whichever list has none.
func TestNilAndEmpty(t *testing.T) {
	a, b := gradeG(), gradeG()
	a.Limits, b.Limits = nil, []api.GradeLimit{}
	for _, c := range calls(0, 0) {
		same(t, c.name, c.do(a), c.do(b))
	}
}

// TestMemory: R4. No argument is changed, also behind its end.
func TestMemory(t *testing.T) {
	limits := append(gradeG().Limits, limit(17, 3))
	for n := range len(limits) {
		for _, points := range [][5]api.Span{gradeG().Points, gradeM().Points} {
			g := made(2, points, limits[:n]...)
			for _, c := range calls(1, 0) {
				c.do(g)
			}
			same(t, "the points", g.Points, points)
		}
	}
	same(t, "the limits", limits, append(gradeG().Limits, limit(17, 3)))
}
