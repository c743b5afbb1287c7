package grade_test

import (
	"testing"

	"blockworks/api"
	"blockworks/grade"
)

// cases is how many grades each of these tests goes through.
const cases = 400

// TestModel: P7.1 to P7.8, of many grades; that each number of a point is that of a truth is of P7.8.
func TestModel(t *testing.T) {
	c := chance(1)
	seen := map[string]int{}
	for range cases * 2 {
		g, _ := c.block(c.below(3) > 0)
		m := modelOf(g)
		same(t, "Clash", three(grade.Clash(g)), m.clash())
		if len(m.truths) == 0 {
			seen["clash"]++
			for _, call := range calls(c.below(5), c.below(len(g.Limits))) {
				if call.name != "Clash" {
					wantError(t, call, g, api.ErrClash)
				}
			}
		} else {
			compare(t, m, seen)
		}
		if t.Failed() {
			t.Fatalf("the grade is %v", g)
		}
	}
	for _, kind := range []string{"clash", "never", "perhaps", "always", "none", "lapped", "as it is", "a better point"} {
		if seen[kind] < cases/20 {
			t.Errorf("of %d grades only %d are of the kind %s", cases*2, seen[kind], kind)
		}
	}
}

func compare(t *testing.T, m model, seen map[string]int) {
	t.Helper()
	for p := range 5 {
		s, every := m.point(p)
		same(t, "Point", two(grade.Point(m.g, p)), two(s, api.OK))
		same(t, "that each number is that of a truth", every, true)
	}
	varies, _ := m.span(truth.varies)
	off, _ := m.span(truth.off)
	same(t, "Varies", two(grade.Varies(m.g)), two(varies, api.OK))
	same(t, "Off", two(grade.Off(m.g)), two(off, api.OK))
	same(t, "Grades", two(grade.Grades(m.g)), number(m.grades()))
	ask := m.ask()
	same(t, "Ask", three(grade.Ask(m.g)), ask)
	if ask[0] != 0 {
		seen["a better point"]++
	}
	for n := range m.g.Limits {
		sure, lap := m.sure(n), m.lap(n)
		same(t, "Sure", two(grade.Sure(m.g, n)), number(sure))
		same(t, "Lap", two(grade.Lap(m.g, n)), lap)
		seen[[]string{"never", "perhaps", "always"}[sure]]++
		switch {
		case lap[1] != api.OK:
			seen["none"]++
		case lap[0] == api.GradeMost:
			seen["as it is"]++
		default:
			seen["lapped"]++
		}
	}
}

// TestTrue: P7.8, P2 and P7. However a block truly is, it is among what is told.
func TestTrue(t *testing.T) {
	c := chance(2)
	for range cases * 3 {
		g, is := c.block(false)
		if !is.isOf(g) {
			t.Fatalf("%v is no truth of %v", is, g)
		}
		if a, b, e := grade.Clash(g); e != api.ErrNone {
			t.Fatalf("%v: %d and %d clash, %v", g, a, b, e)
		}
		for p, n := range is {
			if s, e := grade.Point(g, p); e != api.OK || !inside(n, s) {
				t.Fatalf("%v: the point %d is %d, and told is %v, %v", g, p, n, s, e)
			}
		}
		if s, e := grade.Varies(g); e != api.OK || !inside(is.varies(), s) {
			t.Fatalf("%v: it varies by %d, and told is %v, %v", g, is.varies(), s, e)
		}
		if s, e := grade.Off(g); e != api.OK || !inside(is.off(), s) {
			t.Fatalf("%v: it is off by %d, and told is %v, %v", g, is.off(), s, e)
		}
		if set, e := grade.Grades(g); e != api.OK || !has(set, is.grade(g.Limits)) {
			t.Fatalf("%v: its grade is %d, and told are %b, %v", g, is.grade(g.Limits), set, e)
		}
		for n := range g.Limits {
			asGood(t, g, is, n)
		}
	}
}

// asGood fails unless a block that truly is so has a grade that it surely has, has none that it never has, and keeps the limit once it is lapped.
func asGood(t *testing.T, g api.Grade, is truth, n int) {
	t.Helper()
	sure, e := grade.Sure(g, n)
	if has := is.grade(g.Limits) <= n; e != api.OK || has && sure == api.GradeNever || !has && sure == api.GradeAlways {
		t.Fatalf("%v: its grade is %d, and for %d is told %d, %v", g, is.grade(g.Limits), n, sure, e)
	}
	level, e := grade.Lap(g, n)
	if e == api.OK && !is.lapped(level).keeps(g.Limits[n]) {
		t.Fatalf("%v: %v lapped to %d does not keep the limit %d", g, is, level, n)
	}
	if sure == api.GradeAlways && level != api.GradeMost {
		t.Fatalf("%v surely has the grade %d, and is to be lapped to %d, %v", g, n, level, e)
	}
}

// measured returns a grade in which a point is known exactly.
func measured(g api.Grade, point, n int) api.Grade {
	g.Points[point] = span(n, n)
	return g
}

// TestEach: P7.8. Each number of a point that is told is that of a truth, and no other one is; both ends of the other spans are those of a truth.
func TestEach(t *testing.T) {
	c := chance(3)
	for range cases {
		g, _ := c.block(false)
		var varies, off api.Span
		for p := range 5 {
			s, _ := grade.Point(g, p)
			varies, off = span(99, -99), span(99, -99)
			for n := g.Points[p].Lo; n <= g.Points[p].Hi; n++ {
				v := measured(g, p, n)
				_, _, e := grade.Clash(v)
				if (e == api.ErrNone) != inside(n, s) {
					t.Fatalf("%v: the point %d is %v, and for %d: %v", g, p, s, n, e)
				}
				if e == api.ErrNone {
					varies = join(varies, v, grade.Varies)
					off = join(off, v, grade.Off)
				}
			}
			same(t, "Varies", two(grade.Varies(g)), two(varies, api.OK))
			same(t, "Off", two(grade.Off(g)), two(off, api.OK))
		}
		if t.Failed() {
			t.Fatalf("the grade is %v", g)
		}
	}
}

func join(s api.Span, g api.Grade, of func(api.Grade) (api.Span, api.Errno)) api.Span {
	more, _ := of(g)
	return span(min(s.Lo, more.Lo), max(s.Hi, more.Hi))
}

// TestLeft: P7.6 and P7.8. Whatever the point that is asked for is measured to be, no more grades are left than are told, and once as many are; by no other point fewer are left, and by none before it as few.
func TestLeft(t *testing.T) {
	c := chance(4)
	for range cases {
		g, _ := c.block(false)
		point, left, e := grade.Ask(g)
		if e != api.OK {
			t.Fatalf("%v: %v", g, e)
		}
		for p := range 5 {
			most := 0
			for n := g.Points[p].Lo; n <= g.Points[p].Hi; n++ {
				set, _ := grade.Grades(measured(g, p, n))
				most = max(most, size(set))
			}
			if p == point && most != left || p < point && most <= left || most < left {
				t.Fatalf("%v: measured should be %d, which leaves %d, and %d leaves %d", g, point, left, p, most)
			}
		}
	}
}

// better returns a grade of which a point is better known, or whose step is less.
func (c *chance) better(g api.Grade) api.Grade {
	p := c.below(6)
	if p == 5 {
		g.Step = c.between(0, g.Step)
		return g
	}
	s := &g.Points[p]
	s.Lo = c.between(s.Lo, s.Hi)
	s.Hi = c.between(s.Lo, s.Hi)
	return g
}

// TestMore: P7.9 and P2. With a point that is known better, or a lesser step, nothing is told less exactly, unless there is no truth then.
func TestMore(t *testing.T) {
	c := chance(5)
	compared := 0
	for range cases * 4 {
		g, _ := c.block(c.below(4) == 0)
		v := c.better(g)
		_, _, e := grade.Clash(g)
		_, _, f := grade.Clash(v)
		if e == api.OK && f != api.OK {
			t.Fatalf("%v has no truth, and %v has one", g, v)
		}
		if f == api.OK {
			continue
		}
		compared++
		for p := range 5 {
			was, _ := grade.Point(g, p)
			now, _ := grade.Point(v, p)
			noWider(t, "Point", was, now)
		}
		noWider(t, "Varies", join(span(99, -99), g, grade.Varies), join(span(99, -99), v, grade.Varies))
		noWider(t, "Off", join(span(99, -99), g, grade.Off), join(span(99, -99), v, grade.Off))
		was, _ := grade.Grades(g)
		now, _ := grade.Grades(v)
		same(t, "the grades that come anew", now&^was, 0)
		_, left, _ := grade.Ask(g)
		if _, less, _ := grade.Ask(v); less > left {
			t.Errorf("Ask leaves %d, and with more %d", left, less)
		}
		for n := range g.Limits {
			was, _ := grade.Sure(g, n)
			if now, _ := grade.Sure(v, n); was != api.GradePerhaps && now != was {
				t.Errorf("Sure %d: %d, and with more %d", n, was, now)
			}
			noLess(t, "Lap", two(grade.Lap(g, n)), two(grade.Lap(v, n)))
		}
		if t.Failed() {
			t.Fatalf("%v, and with more %v", g, v)
		}
	}
	if compared < cases {
		t.Errorf("only %d grades were compared", compared)
	}
}

func noWider(t *testing.T, call string, was, now api.Span) {
	t.Helper()
	if now.Lo < was.Lo || now.Hi > was.Hi {
		t.Errorf("%s: %v, and with more %v", call, was, now)
	}
}

// noLess fails if there was a level, and there is none, or a lesser one.
func noLess(t *testing.T, call string, was, now [2]any) {
	t.Helper()
	if was[1] == api.OK && (now[1] != api.OK || now[0].(int) < was[0].(int)) {
		t.Errorf("%s: %v, and with more %v", call, was, now)
	}
}

// TestGreater: P7.9. With greater limits no grade is less sure, and no level less.
func TestGreater(t *testing.T) {
	c := chance(6)
	for range cases * 2 {
		g, _ := c.block(false)
		v := clone(g)
		for i := range v.Limits {
			l := &v.Limits[i]
			l.Off, l.Varies = min(api.GradeMost, l.Off+c.below(3)), min(api.GradeMost, l.Varies+c.below(3))
		}
		rising(v.Limits)
		for n := range g.Limits {
			was, _ := grade.Sure(g, n)
			if now, e := grade.Sure(v, n); e != api.OK || now < was {
				t.Errorf("Sure %d: %d, and then %d, %v", n, was, now, e)
			}
			noLess(t, "Lap", two(grade.Lap(g, n)), two(grade.Lap(v, n)))
		}
		for _, of := range []func(api.Grade) (api.Span, api.Errno){grade.Varies, grade.Off} {
			same(t, "what limits do not change", two(of(v)), two(of(g)))
		}
		if t.Failed() {
			t.Fatalf("%v, and with greater limits %v", g, v)
		}
	}
}

// turns are the ways to number corners otherwise: which number each point then has.
func turns() [][5]int {
	var list [][5]int
	for on := range 4 {
		there, back := [5]int{}, [5]int{}
		for corner := range 4 {
			there[1+corner] = 1 + (corner+on)%4
			back[1+corner] = 1 + (7-corner-on)%4
		}
		list = append(list, there, back)
	}
	return list
}

// TestTurned: P7.9 and P11. If corners are numbered on, or the other way round, only their numbers change.
func TestTurned(t *testing.T) {
	c := chance(7)
	for range cases {
		g, _ := c.block(c.below(3) == 0)
		a, b, clash := grade.Clash(g)
		for _, turn := range turns() {
			v := g
			for p, now := range turn {
				v.Points[now] = g.Points[p]
			}
			for p, now := range turn {
				same(t, "Point", two(grade.Point(v, now)), two(grade.Point(g, p)))
			}
			for _, call := range []int{1, 2, 3} {
				same(t, calls(0, 0)[call].name, calls(0, 0)[call].do(v), calls(0, 0)[call].do(g))
			}
			for n := range g.Limits {
				same(t, "Sure", two(grade.Sure(v, n)), two(grade.Sure(g, n)))
				same(t, "Lap", two(grade.Lap(v, n)), two(grade.Lap(g, n)))
			}
			_, left, _ := grade.Ask(g)
			_, still, _ := grade.Ask(v)
			same(t, "what is left", still, left)
			turnedClash(t, v, clash, turn[a], turn[b])
		}
		if t.Failed() {
			t.Fatalf("the grade is %v", g)
		}
	}
}

// turnedClash fails unless a grade has a truth just if it had one, or the two points clash in it that clashed before: these, or two that come before them, are told.
func turnedClash(t *testing.T, g api.Grade, clash api.Errno, a, b int) {
	t.Helper()
	x, y, e := grade.Clash(g)
	same(t, "Clash", e, clash)
	if e != api.OK {
		return
	}
	a, b = min(a, b), max(a, b)
	if meet(g, a, b) || meet(g, x, y) || x > a || x == a && y > b {
		t.Errorf("%d and %d clash, and told are %d and %d", a, b, x, y)
	}
}

// TestUpsideDown: P7.1 to P7.4. If each number has the other sign, spans of points have it, too, and nothing else changes but how it is lapped.
func TestUpsideDown(t *testing.T) {
	c := chance(8)
	for range cases {
		g, _ := c.block(c.below(3) == 0)
		v := g
		for p, s := range g.Points {
			v.Points[p] = span(-s.Hi, -s.Lo)
		}
		for p := range 5 {
			s, e := grade.Point(g, p)
			same(t, "Point", two(grade.Point(v, p)), two(span(-s.Hi, -s.Lo), e))
		}
		for i, call := range calls(0, 0) {
			if call.name != "Point" && call.name != "Lap" {
				same(t, call.name, calls(0, 0)[i].do(v), call.do(g))
			}
		}
		if t.Failed() {
			t.Fatalf("the grade is %v", g)
		}
	}
}

// TestFewest: P4. The two points that clash alone leave no truth; each of them alone leaves one.
func TestFewest(t *testing.T) {
	c := chance(9)
	clashing := 0
	for range cases * 2 {
		g, _ := c.block(true)
		a, b, e := grade.Clash(g)
		if e != api.OK {
			continue
		}
		clashing++
		if a >= b || meet(g, a, b) {
			t.Fatalf("%v: %d and %d are told, and do not clash", g, a, b)
		}
		for _, p := range []int{a, b} {
			v := g
			v.Points = all(g.Points[p].Lo, g.Points[p].Hi)
			if _, _, e := grade.Clash(v); e != api.ErrNone {
				t.Fatalf("%v: the point %d alone: %v", g, p, e)
			}
		}
	}
	if clashing < cases/10 {
		t.Errorf("only %d grades have no truth", clashing)
	}
}

// TestOneAnother: P7.2 to P7.6. What is told by one function agrees with what is told by the others.
func TestOneAnother(t *testing.T) {
	c := chance(10)
	for range cases * 2 {
		g, _ := c.block(false)
		set, _ := grade.Grades(g)
		compareSure(t, g, set)
		varies, _ := grade.Varies(g)
		off, _ := grade.Off(g)
		_, left, _ := grade.Ask(g)
		if left < 1 || left > size(set) {
			t.Errorf("of the grades %b %d are left", set, left)
		}
		best := len(g.Limits)
		for n := len(g.Limits) - 1; n >= 0; n-- {
			if off.Lo <= g.Limits[n].Off && varies.Lo <= g.Limits[n].Varies {
				best = n
			}
			level, e := grade.Lap(g, n)
			keeps := off.Hi <= g.Limits[n].Off && varies.Hi <= g.Limits[n].Varies
			same(t, "that it need not be lapped", e == api.OK && level == api.GradeMost, keeps)
		}
		same(t, "the grades that are too good", set&(1<<best-1), 0)
		if t.Failed() {
			t.Fatalf("the grade is %v", g)
		}
	}
}

// TestLevels: P7.5. At the level that is told the limit is kept in each truth, and at no greater one.
func TestLevels(t *testing.T) {
	c := chance(11)
	lapped := 0
	for range cases {
		g, _ := c.block(false)
		m := modelOf(g)
		for n := range g.Limits {
			level, e := grade.Lap(g, n)
			if e != api.OK {
				level = -api.GradeMost - 1
			}
			for l := -api.GradeMost; l <= api.GradeMost; l++ {
				so := true
				for _, is := range m.truths {
					so = so && is.lapped(l).keeps(g.Limits[n])
				}
				if so && l > level || !so && l == level {
					t.Fatalf("%v: for %d it is to be lapped to %d, %v; that it keeps the limit at %d is %v", g, n, level, e, l, so)
				}
			}
			if e == api.OK && level < api.GradeMost {
				lapped++
			}
		}
	}
	if lapped < cases/5 {
		t.Errorf("only %d blocks are lapped", lapped)
	}
}

// TestReplay: P11. The same call returns the same, however often it is made.
func TestReplay(t *testing.T) {
	c := chance(12)
	for range cases / 8 {
		g, _ := c.block(c.below(4) == 0)
		for _, call := range calls(c.below(5), c.below(len(g.Limits))) {
			first := call.do(g)
			for range 3 {
				same(t, call.name, call.do(g), first)
			}
		}
	}
}
