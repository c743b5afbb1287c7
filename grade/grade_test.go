package grade_test

import (
	"reflect"
	"slices"
	"testing"

	"blockworks/api"
	"blockworks/grade"
)

// gradeG and gradeM are the grades of the chapter's examples.
func gradeG() api.Grade {
	return made(2, points(span(1, 1), span(0, 2), span(1, 3), span(2, 4), span(0, 1)), limit(2, 1), limit(4, 3), limit(8, 6))
}

func gradeM() api.Grade {
	g := gradeG()
	g.Points = points(span(2, 3), span(0, 0), span(1, 3), span(5, 5), span(3, 3))
	return g
}

func made(step int, points [5]api.Span, limits ...api.GradeLimit) api.Grade {
	return api.Grade{Limits: limits, Points: points, Step: step}
}

func limit(off, varies int) api.GradeLimit { return api.GradeLimit{Off: off, Varies: varies} }

func points(a, b, c, d, e api.Span) [5]api.Span { return [5]api.Span{a, b, c, d, e} }

// exactly returns points that are known exactly.
func exactly(a, b, c, d, e int) [5]api.Span {
	return points(span(a, a), span(b, b), span(c, c), span(d, d), span(e, e))
}

// all returns points of which the same is known.
func all(lo, hi int) [5]api.Span {
	return points(span(lo, hi), span(lo, hi), span(lo, hi), span(lo, hi), span(lo, hi))
}

// loose returns a grade whose points differ by any number, and that has but one limit.
func loose(points [5]api.Span) api.Grade { return made(10, points, limit(0, 0)) }

// same fails unless what a call returned is what is wanted.
func same(t *testing.T, call string, got, want any) {
	t.Helper()
	if !reflect.DeepEqual(got, want) {
		t.Errorf("%s: got %v, want %v", call, got, want)
	}
}

// two and three put the results of a call into one value.
func two[A any](a A, e api.Errno) [2]any { return [2]any{a, e} }
func three(a, b int, e api.Errno) [3]any { return [3]any{a, b, e} }

func long(lo, hi int) [2]any { return two(span(lo, hi), api.OK) }
func number(n int) [2]any    { return two(n, api.OK) }
func both(a, b int) [3]any   { return three(a, b, api.OK) }
func none() [2]any           { return two(0, api.ErrNone) }
func noPair() [3]any         { return three(0, 0, api.ErrNone) }

// setOf returns the set of some numbers.
func setOf(numbers ...int) int {
	set := 0
	for _, n := range numbers {
		set |= 1 << n
	}
	return set
}

func TestExamples(t *testing.T) {
	g, m := gradeG(), gradeM()
	same(t, "Point 3", two(grade.Point(g, 3)), long(2, 3))
	same(t, "Point 4", two(grade.Point(g, 4)), long(0, 1))
	same(t, "Varies", two(grade.Varies(g)), long(1, 3))
	same(t, "Off", two(grade.Off(g)), long(2, 3))
	same(t, "Grades", two(grade.Grades(g)), number(3))
	same(t, "Sure 0", two(grade.Sure(g, 0)), number(1))
	same(t, "Sure 1", two(grade.Sure(g, 1)), number(2))
	same(t, "Sure 2", two(grade.Sure(g, 2)), number(2))
	same(t, "Lap 0", two(grade.Lap(g, 0)), number(1))
	same(t, "Lap 1", two(grade.Lap(g, 1)), number(20))
	same(t, "Ask", three(grade.Ask(g)), both(0, 2))
	same(t, "Clash of M", three(grade.Clash(m)), both(1, 3))
	same(t, "Clash", three(grade.Clash(g)), noPair())
	same(t, "Varies of M", two(grade.Varies(m)), two(api.Span{}, api.ErrClash))
}

// TestPoint: P7.1. A point tells of those next to it by one step, and of the opposite corner by two.
func TestPoint(t *testing.T) {
	for _, x := range []struct {
		step   int
		points [5]api.Span
		told   [5]api.Span
	}{
		{0, exactly(3, 3, 3, 3, 3), exactly(3, 3, 3, 3, 3)}, {10, exactly(-20, -10, -15, -20, -11), exactly(-20, -10, -15, -20, -11)}, {10, all(0, 6), all(0, 6)}, {6, all(-20, -14), all(-20, -14)}, {0, all(14, 20), all(14, 20)}, {1, all(-3, 3), all(-3, 3)},
		{0, points(span(0, 6), span(2, 8), span(1, 7), span(3, 5), span(-2, 4)), all(3, 4)},
		{0, points(span(0, 6), span(6, 12), span(1, 7), span(3, 9), span(4, 10)), all(6, 6)},
		// The centre bounds all corners.
		{2, points(span(0, 0), span(-6, 0), span(0, 6), span(-3, 3), span(-2, 4)), points(span(0, 0), span(-2, 0), span(0, 2), span(-2, 2), span(-2, 2))},
		{3, points(span(-20, -20), span(-20, -14), span(-20, -14), span(-18, -12), span(-17, -11)), points(span(-20, -20), span(-20, -17), span(-20, -17), span(-18, -17), span(-17, -17))},
		// A corner bounds the centre, and the corners beside it, by one step, and the opposite one by two.
		{1, points(span(0, 6), span(0, 0), span(0, 6), span(0, 6), span(0, 6)), points(span(0, 1), span(0, 0), span(0, 1), span(0, 2), span(0, 1))},
		{1, points(span(0, 6), span(0, 6), span(0, 0), span(0, 6), span(0, 6)), points(span(0, 1), span(0, 1), span(0, 0), span(0, 1), span(0, 2))},
		{1, points(span(0, 6), span(0, 6), span(0, 6), span(6, 6), span(0, 6)), points(span(5, 6), span(4, 6), span(5, 6), span(6, 6), span(5, 6))},
		{1, points(span(0, 6), span(0, 6), span(0, 6), span(0, 6), span(6, 6)), points(span(5, 6), span(5, 6), span(4, 6), span(5, 6), span(6, 6))},
		{2, points(span(0, 6), span(5, 5), span(0, 6), span(-1, 5), span(0, 6)), points(span(3, 6), span(5, 5), span(3, 6), span(1, 5), span(3, 6))},
		// Bounds from several points meet.
		{2, points(span(0, 6), span(0, 0), span(0, 6), span(4, 4), span(0, 6)), exactly(2, 0, 2, 4, 2)},
		{2, points(span(0, 6), span(0, 1), span(1, 4), span(4, 4), span(-1, 2)), points(span(2, 3), span(0, 1), span(2, 3), span(4, 4), span(2, 2))},
		{5, points(span(-2, 4), span(-4, -3), span(-9, -3), span(2, 4), span(-1, 0)), points(span(-2, 2), span(-4, -3), span(-3, -3), span(2, 2), span(-1, 0))},
	} {
		g := made(x.step, x.points, limit(0, 0))
		m := modelOf(g)
		for p, s := range x.told {
			want, _ := m.point(p)
			same(t, "the table", s, want)
			same(t, "Point", two(grade.Point(g, p)), two(s, api.OK))
		}
	}
}

// TestVariesAndOff: P7.2. Points vary together, and by how much they differ counts without the sign.
func TestVariesAndOff(t *testing.T) {
	for _, x := range []struct {
		step        int
		points      [5]api.Span
		varies, off api.Span
	}{
		{0, exactly(0, 0, 0, 0, 0), span(0, 0), span(0, 0)}, {0, exactly(-20, -20, -20, -20, -20), span(0, 0), span(20, 20)}, {0, exactly(20, 20, 20, 20, 20), span(0, 0), span(20, 20)}, {10, exactly(0, -10, 0, 10, 0), span(20, 20), span(10, 10)}, {10, exactly(-10, -20, -10, 0, -10), span(20, 20), span(20, 20)},
		{10, exactly(-3, -5, 0, 2, 1), span(7, 7), span(5, 5)}, {10, exactly(-3, -5, 0, 6, 1), span(11, 11), span(6, 6)}, {10, exactly(4, 5, 5, 6, 4), span(2, 2), span(6, 6)}, {10, exactly(-4, -5, -5, -6, -4), span(2, 2), span(6, 6)}, {10, exactly(0, 0, 0, 0, 7), span(7, 7), span(7, 7)}, {10, exactly(-7, 0, 0, 0, 0), span(7, 7), span(7, 7)}, {10, exactly(0, -7, 0, 0, 0), span(7, 7), span(7, 7)}, {10, exactly(0, 0, 0, 7, 0), span(7, 7), span(7, 7)},
		// Opposite corners differ by two steps, at most; all points can be the same.
		{10, all(-3, 3), span(0, 6), span(0, 3)}, {3, all(-3, 3), span(0, 6), span(0, 3)}, {2, all(-3, 3), span(0, 4), span(0, 3)}, {1, all(-3, 3), span(0, 2), span(0, 3)}, {0, all(-3, 3), span(0, 0), span(0, 3)}, {10, all(1, 6), span(0, 5), span(1, 6)}, {10, all(-6, -1), span(0, 5), span(1, 6)}, {10, all(-5, 1), span(0, 6), span(0, 5)}, {10, all(-20, -14), span(0, 6), span(14, 20)}, {10, all(14, 20), span(0, 6), span(14, 20)},
		// The greatest number comes of points that are not far off together.
		{2, points(span(-2, 2), span(-2, -1), span(-1, 1), span(1, 2), span(0, 0)), span(2, 4), span(1, 2)}, {2, points(span(0, 0), span(-6, 0), span(0, 6), span(-3, 3), span(-2, 4)), span(0, 4), span(0, 2)},
		{3, points(span(-1, 5), span(-4, -2), span(-3, 3), span(0, 4), span(-2, 0)), span(2, 6), span(2, 4)}, {0, points(span(0, 6), span(2, 8), span(1, 7), span(3, 5), span(-2, 4)), span(0, 0), span(3, 4)},
	} {
		g := made(x.step, x.points, limit(0, 0))
		m := modelOf(g)
		varies, _ := m.span(truth.varies)
		off, _ := m.span(truth.off)
		same(t, "the table", [2]api.Span{x.varies, x.off}, [2]api.Span{varies, off})
		same(t, "Varies", two(grade.Varies(g)), two(x.varies, api.OK))
		same(t, "Off", two(grade.Off(g)), two(x.off, api.OK))
	}
}

// TestGrades: P7.3. A block has the first grade both of whose numbers it keeps; if it keeps none it has as many as there are.
func TestGrades(t *testing.T) {
	four := []api.GradeLimit{limit(1, 1), limit(2, 3), limit(5, 3), limit(5, 8)}
	for _, x := range []struct {
		limits []api.GradeLimit
		points [5]api.Span
		grades int
	}{
		{four, exactly(0, 0, 0, 0, 0), setOf(0)}, {four, exactly(1, 1, 1, 1, 1), setOf(0)}, {four, exactly(-1, -1, -1, -1, -1), setOf(0)}, {four, exactly(0, 1, 0, 0, 1), setOf(0)}, {four, exactly(0, 0, -1, 0, 1), setOf(1)}, {four, exactly(2, 2, 2, 2, 2), setOf(1)}, {four, exactly(-2, -2, -2, -2, -2), setOf(1)}, {four, exactly(2, 1, -1, 0, 2), setOf(1)}, {four, exactly(2, 2, -2, 2, 2), setOf(3)}, {four, exactly(3, 3, 3, 3, 3), setOf(2)}, {four, exactly(-3, -3, -3, -3, 0), setOf(2)}, {four, exactly(5, 5, 2, 5, 5), setOf(2)}, {four, exactly(5, 5, 1, 5, 5), setOf(3)}, {four, exactly(0, 5, 0, -3, 0), setOf(3)}, {four, exactly(0, 5, 0, -4, 0), setOf(4)}, {four, exactly(6, 6, 6, 6, 6), setOf(4)}, {four, exactly(-20, -20, -20, -20, -20), setOf(4)}, {four, exactly(0, 0, 0, 0, -6), setOf(4)},
		// With several truths it can have several grades.
		{four, points(span(0, 6), span(0, 0), span(0, 0), span(0, 0), span(0, 0)), setOf(0, 1, 2, 3, 4)}, {four, points(span(0, 0), span(0, 1), span(0, 0), span(0, 0), span(0, 0)), setOf(0)}, {four, points(span(0, 0), span(0, 1), span(0, 0), span(0, 0), span(-1, 0)), setOf(0, 1)}, {four, all(-3, 3), setOf(0, 1, 2, 3)}, {four, all(2, 6), setOf(1, 2, 4)}, {four, all(3, 5), setOf(2)}, {four, all(-6, -6), setOf(4)}, {four, all(-7, -5), setOf(2, 4)},
		// There can be one grade alone, and several with the same limit, of which the first one counts.
		{[]api.GradeLimit{limit(0, 0)}, all(0, 1), setOf(0, 1)}, {[]api.GradeLimit{limit(20, 20)}, all(-3, 3), setOf(0)}, {[]api.GradeLimit{limit(20, 0)}, all(-20, -20), setOf(0)}, {[]api.GradeLimit{limit(0, 20)}, all(-20, -20), setOf(1)}, {[]api.GradeLimit{limit(0, 20)}, exactly(0, 0, 0, 0, 1), setOf(1)}, {[]api.GradeLimit{limit(1, 1), limit(1, 1), limit(2, 2), limit(2, 2)}, all(1, 4), setOf(0, 2, 4)}, {[]api.GradeLimit{limit(0, 1), limit(0, 2), limit(1, 2)}, all(1, 2), setOf(2, 3)},
	} {
		g := made(10, x.points, x.limits...)
		same(t, "the table", x.grades, modelOf(g).grades())
		same(t, "Grades", two(grade.Grades(g)), number(x.grades))
		compareSure(t, g, x.grades)
	}
}

// compareSure: P7.4, by the set of the grades that a block has in some truth.
func compareSure(t *testing.T, g api.Grade, grades int) {
	t.Helper()
	for n := range g.Limits {
		want := api.GradePerhaps
		switch enough := 2<<n - 1; {
		case grades&^enough == 0:
			want = api.GradeAlways
		case grades&enough == 0:
			want = api.GradeNever
		}
		same(t, "Sure", two(grade.Sure(g, n)), number(want))
	}
}

// TestSure: P7.4. A better grade is good enough, a worse one is not.
func TestSure(t *testing.T) {
	never, perhaps, always := api.GradeNever, api.GradePerhaps, api.GradeAlways
	limits := []api.GradeLimit{limit(1, 1), limit(3, 3), limit(6, 3)}
	for _, x := range []struct {
		points [5]api.Span
		sure   [3]int
	}{
		{all(0, 0), [3]int{always, always, always}}, {all(0, 1), [3]int{always, always, always}}, {all(0, 2), [3]int{perhaps, always, always}}, {all(1, 3), [3]int{perhaps, always, always}}, {all(2, 3), [3]int{never, always, always}}, {all(1, 4), [3]int{perhaps, perhaps, always}}, {all(3, 6), [3]int{never, perhaps, always}}, {all(4, 6), [3]int{never, never, always}}, {all(5, 7), [3]int{never, never, perhaps}}, {all(7, 9), [3]int{never, never, never}}, {all(-1, 5), [3]int{perhaps, perhaps, perhaps}}, {all(2, 6), [3]int{never, perhaps, perhaps}}, {exactly(0, 0, 2, 0, -2), [3]int{never, never, never}}, {exactly(0, 0, 2, 0, -1), [3]int{never, always, always}},
	} {
		g := made(10, x.points, limits...)
		for n, want := range x.sure {
			same(t, "Sure", two(grade.Sure(g, n)), number(want))
		}
	}
	same(t, "the numbers", []int{never, perhaps, always}, []int{0, 1, 2})
}

// TestLap: P7.5. Points that are lower than the level stay as they are, so not each block can be lapped.
func TestLap(t *testing.T) {
	for _, x := range []struct {
		limit  api.GradeLimit
		points [5]api.Span
		level  int
	}{
		{limit(0, 0), exactly(0, 0, 0, 0, 0), 20}, {limit(20, 0), exactly(20, 20, 20, 20, 20), 20}, {limit(19, 0), exactly(20, 20, 20, 20, 20), 19}, {limit(0, 0), exactly(20, 20, 20, 20, 20), 0}, {limit(20, 0), exactly(-20, -20, -20, -20, -20), 20}, {limit(20, 0), exactly(-20, -15, -12, -11, -10), -20}, {limit(20, 9), exactly(-20, -15, -12, -11, -10), -11}, {limit(20, 10), exactly(-20, -15, -12, -11, -10), 20},
		{limit(2, 1), exactly(0, 0, 0, 0, 9), 1}, {limit(2, 2), exactly(0, 0, 0, 0, 9), 2}, {limit(2, 9), exactly(0, 0, 0, 0, 9), 2}, {limit(8, 9), exactly(0, 0, 0, 0, 9), 8}, {limit(9, 8), exactly(0, 0, 0, 0, 9), 8}, {limit(9, 9), exactly(0, 0, 0, 0, 9), 20}, {limit(0, 0), exactly(0, 0, 0, 0, 9), 0}, {limit(0, 0), exactly(9, 0, 3, 5, 9), 0}, {limit(6, 0), exactly(9, 7, 8, 9, 9), 6},
		// The level can be below the mark, but not farther off than the limit.
		{limit(2, 0), exactly(5, -2, 5, 5, 5), -2}, {limit(2, 1), exactly(5, -2, 5, 5, 5), -1}, {limit(2, 3), exactly(5, -2, 5, 5, 5), 1}, {limit(2, 4), exactly(5, -2, 5, 5, 5), 2}, {limit(2, 20), exactly(5, -2, 5, 5, 5), 2}, {limit(5, 6), exactly(5, -2, 5, 5, 5), 4}, {limit(5, 7), exactly(5, -2, 5, 5, 5), 20},
		// What holds in each truth holds for the lowest point that there can be.
		{limit(2, 1), points(span(-1, 1), span(0, 6), span(0, 6), span(0, 6), span(0, 6)), 0}, {limit(2, 2), points(span(-1, 1), span(0, 6), span(0, 6), span(0, 6), span(0, 6)), 1}, {limit(2, 3), points(span(-1, 1), span(0, 6), span(0, 6), span(0, 6), span(0, 6)), 2}, {limit(6, 7), points(span(-1, 1), span(0, 6), span(0, 6), span(0, 6), span(0, 6)), 20}, {limit(5, 7), points(span(-1, 1), span(0, 6), span(0, 6), span(0, 6), span(0, 6)), 5}, {limit(6, 6), points(span(-1, 1), span(0, 6), span(0, 6), span(0, 6), span(0, 6)), 5}, {limit(6, 6), all(-3, 3), 20}, {limit(6, 5), all(-3, 3), 2}, {limit(3, 0), all(-3, 3), -3},
	} {
		g := made(10, x.points, x.limit)
		same(t, "the table", number(x.level), modelOf(g).lap(0))
		same(t, "Lap", two(grade.Lap(g, 0)), number(x.level))
	}
	for _, x := range []struct {
		limit  api.GradeLimit
		points [5]api.Span
	}{
		{limit(1, 0), exactly(5, -2, 5, 5, 5)}, {limit(1, 20), exactly(5, -2, 5, 5, 5)}, {limit(0, 0), exactly(0, 0, 0, 0, -1)}, {limit(19, 20), exactly(-20, -20, -20, -20, -20)}, {limit(1, 20), all(-2, 3)}, {limit(5, 20), points(span(0, 0), span(0, 0), span(0, 0), span(-6, 0), span(0, 0))},
	} {
		g := made(10, x.points, x.limit)
		same(t, "the table", none(), modelOf(g).lap(0))
		same(t, "Lap", two(grade.Lap(g, 0)), none())
	}
}

// TestLapEach: P7.5. Each grade has a level of its own, and one that is not the best is not lapped for a better one.
func TestLapEach(t *testing.T) {
	g := made(10, points(span(-2, -1), span(4, 6), span(3, 5), span(-1, 5), span(2, 8)), limit(1, 9), limit(2, 9), limit(4, 9), limit(8, 10))
	for n, want := range [][2]any{none(), number(2), number(4), number(20)} {
		same(t, "Lap", two(grade.Lap(g, n)), want)
	}
	// With a lesser step the block cannot vary as much, so it is lapped less, or not at all.
	g.Limits = []api.GradeLimit{limit(8, 2), limit(8, 4), limit(8, 5), limit(8, 7)}
	for _, x := range []struct {
		step   int
		levels [4]int
	}{{10, [4]int{0, 2, 3, 5}}, {8, [4]int{0, 2, 3, 5}}, {7, [4]int{0, 2, 3, 20}}, {6, [4]int{0, 2, 3, 20}}, {5, [4]int{1, 3, 20, 20}}} {
		g.Step = x.step
		m := modelOf(g)
		for n, level := range x.levels {
			same(t, "the table", number(level), m.lap(n))
			same(t, "Lap", two(grade.Lap(g, n)), number(level))
		}
	}
}

// TestAsk: P7.6. The worst number counts; of several points the first one is asked for.
func TestAsk(t *testing.T) {
	off := []api.GradeLimit{limit(1, 20), limit(2, 20), limit(4, 20)}
	varies := []api.GradeLimit{limit(20, 0), limit(20, 1), limit(20, 3)}
	for _, x := range []struct {
		limits      []api.GradeLimit
		points      [5]api.Span
		point, left int
	}{
		{off, exactly(0, 0, 0, 0, 0), 0, 1}, {off, exactly(9, 9, 9, 9, 9), 0, 1}, {off, exactly(1, 2, 3, 4, 0), 0, 1},
		{off, points(span(0, 5), span(0, 0), span(0, 0), span(0, 0), span(0, 0)), 0, 1}, {off, points(span(0, 0), span(0, 5), span(0, 0), span(0, 0), span(0, 0)), 1, 1}, {off, points(span(0, 0), span(0, 0), span(0, 5), span(0, 0), span(0, 0)), 2, 1}, {off, points(span(0, 0), span(0, 0), span(0, 0), span(0, 5), span(0, 0)), 3, 1}, {off, points(span(0, 0), span(0, 0), span(0, 0), span(0, 0), span(0, 5)), 4, 1}, {off, points(span(0, 0), span(0, 0), span(0, 0), span(0, 0), span(-5, 0)), 4, 1},
		// Points that tell as much, or nothing at all.
		{off, all(0, 5), 0, 4}, {off, all(3, 4), 0, 1}, {off, points(span(0, 0), span(0, 0), span(0, 5), span(0, 0), span(0, 5)), 0, 4}, {off, points(span(0, 1), span(0, 1), span(0, 1), span(0, 1), span(0, 1)), 0, 1}, {off, points(span(0, 1), span(0, 1), span(0, 1), span(0, 2), span(0, 1)), 3, 1}, {off, points(span(0, 1), span(0, 1), span(0, 2), span(0, 3), span(0, 1)), 3, 2}, {off, points(span(0, 1), span(0, 1), span(0, 3), span(0, 2), span(0, 1)), 2, 2}, {off, points(span(0, 1), span(0, 2), span(0, 3), span(0, 2), span(0, 5)), 4, 3},
		{off, points(span(4, 6), span(0, 5), span(0, 5), span(0, 5), span(0, 5)), 0, 2}, {off, points(span(4, 5), span(0, 5), span(0, 5), span(0, 5), span(0, 0)), 0, 2}, {off, points(span(4, 5), span(0, 4), span(0, 4), span(0, 4), span(0, 0)), 0, 1}, {off, points(span(0, 4), span(0, 4), span(0, 4), span(4, 5), span(0, 0)), 3, 1},
		{varies, points(span(0, 0), span(0, 4), span(0, 0), span(0, 0), span(0, 1)), 1, 2}, {varies, points(span(0, 0), span(0, 1), span(0, 0), span(0, 0), span(0, 4)), 4, 2}, {varies, points(span(0, 1), span(0, 1), span(0, 1), span(0, 1), span(0, 1)), 0, 2}, {varies, all(0, 0), 0, 1}, {varies, points(span(0, 4), span(0, 0), span(0, 0), span(0, 0), span(0, 0)), 0, 1}, {varies, points(span(0, 4), span(0, 4), span(4, 4), span(0, 0), span(1, 2)), 0, 1},
	} {
		g := made(10, x.points, x.limits...)
		same(t, "the table", both(x.point, x.left), modelOf(g).ask())
		same(t, "Ask", three(grade.Ask(g)), both(x.point, x.left))
	}
	// A number that a point has in no truth leaves nothing, but others can leave more.
	g := made(0, points(span(0, 6), span(0, 3), span(2, 4), span(-1, 3), span(2, 8)), off...)
	same(t, "Ask", three(grade.Ask(g)), both(0, 1))
	same(t, "Grades", two(grade.Grades(g)), number(setOf(1, 2)))
}

// apart returns points of which just two differ by so much, the first one being 0, and all others can be anything between.
func apart(a, b, by int) [5]api.Span {
	s := all(0, 6)
	s[a], s[b] = span(0, 0), span(by, by)
	return s
}

// TestClash: P7.7. Points next to one another clash if they differ by more than one step, opposite corners by more than two.
func TestClash(t *testing.T) {
	for a := range 5 {
		for b := a + 1; b < 5; b++ {
			for _, step := range []int{0, 1, 2, 3} {
				most := step
				if a == 1 && b == 3 || a == 2 && b == 4 {
					most = 2 * step
				}
				fits, clashes := made(step, apart(a, b, most), limit(0, 0)), made(step, apart(a, b, most+1), limit(0, 0))
				same(t, "Clash of what fits", three(grade.Clash(fits)), noPair())
				same(t, "Clash", three(grade.Clash(clashes)), both(a, b))
				slices.Reverse(fits.Points[:])
				slices.Reverse(clashes.Points[:])
				same(t, "the model of what fits, reversed", three(grade.Clash(fits)), modelOf(fits).clash())
				same(t, "the model, reversed", three(grade.Clash(clashes)), modelOf(clashes).clash())
			}
		}
	}
	for _, x := range []struct {
		step   int
		points [5]api.Span
		a, b   int
	}{
		// The least first point comes before the least second one.
		{1, exactly(0, 5, 0, 0, 0), 0, 1}, {1, exactly(0, 0, 0, 0, 5), 0, 4}, {1, exactly(0, -5, 0, -5, 0), 0, 1}, {1, exactly(5, 0, 0, 0, 0), 0, 1}, {1, points(span(0, 5), span(0, 0), span(2, 2), span(5, 5), span(0, 5)), 1, 2}, {1, points(span(0, 5), span(0, 0), span(1, 1), span(5, 5), span(9, 9)), 0, 4}, {1, points(span(0, 6), span(0, 0), span(1, 1), span(5, 5), span(6, 6)), 1, 3}, {1, points(span(0, 6), span(0, 0), span(1, 1), span(2, 2), span(6, 6)), 1, 4}, {1, points(span(0, 6), span(1, 2), span(0, 0), span(2, 2), span(3, 3)), 2, 3}, {1, points(span(0, 6), span(1, 2), span(0, 0), span(1, 1), span(3, 3)), 2, 4}, {1, points(span(0, 6), span(1, 2), span(1, 1), span(0, 0), span(2, 3)), 3, 4},
		// Both ends of both spans count.
		{2, points(span(0, 3), span(6, 9), span(0, 6), span(0, 6), span(0, 6)), 0, 1}, {2, points(span(6, 9), span(0, 3), span(4, 6), span(4, 6), span(4, 6)), 0, 1}, {2, points(span(2, 6), span(0, 3), span(2, 6), span(8, 9), span(2, 6)), 1, 3}, {2, points(span(2, 6), span(8, 9), span(2, 6), span(0, 3), span(2, 6)), 1, 3}, {10, exactly(-20, 20, -20, 20, -20), 0, 1}, {10, exactly(-10, -20, -10, 1, -9), 0, 3}, {10, exactly(-9, -20, -10, 1, -9), 0, 1}, {10, exactly(0, -10, 0, 10, 11), 0, 4},
	} {
		g := made(x.step, x.points, limit(0, 0))
		same(t, "the table", both(x.a, x.b), modelOf(g).clash())
		same(t, "Clash", three(grade.Clash(g)), both(x.a, x.b))
	}
	for _, g := range []api.Grade{loose(exactly(0, -10, 0, 10, 0)), loose(exactly(10, 20, 10, 0, 10)), loose(all(-20, -14)), made(0, all(0, 0), limit(0, 0)), made(0, all(-6, 0), limit(20, 20)), made(1, exactly(1, 0, 1, 2, 1), limit(0, 0)), made(2, points(span(2, 6), span(0, 4), span(2, 6), span(8, 9), span(2, 6)), limit(0, 0))} {
		same(t, "Clash", three(grade.Clash(g)), noPair())
	}
}
