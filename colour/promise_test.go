package colour_test

import (
	"slices"
	"testing"

	"blockworks/api"
	"blockworks/colour"
	"blockworks/fringe"
)

// cases is how many colours each of these tests goes through.
const cases = 300

// TestModel: P11.1 to P11.8, of many colours.
func TestModel(t *testing.T) {
	c := chance(1)
	seen := map[string]int{}
	for range cases * 3 {
		p := c.colour(c.one(4, 8, 30))
		if c.below(4) == 0 {
			p = c.dear()
		}
		m := modelOf(p)
		compareAll(t, p, c.set(p), c.set(p), m.all())
		for range 10 {
			n, set, a, b := c.below(len(p.Waves)), c.set(p), c.between(0, 2000), c.between(0, 2000)
			same(t, "Apart", two(colour.Apart(p, n, a, b)), number(apart(p, n, a, b)))
			same(t, "Parts", two(colour.Parts(p, set, a, b)), two(parting(p, a, b)&set != 0, api.OK))
		}
		for _, kind := range m.kinds() {
			seen[kind]++
		}
		if t.Failed() {
			t.Fatalf("the colour is %v", p)
		}
	}
	for _, kind := range []string{"none", "one length", "one colour", "many colours", "several fewest", "cheapest are not fewest", "several cheapest", "reached are some, but not all", "some are spared", "all are spared", "next is not the first"} {
		if seen[kind] < cases/30 {
			t.Errorf("of %d colours only %d are of the kind: %s", cases*3, seen[kind], kind)
		}
	}
}

// dear returns a colour of which the last ones part more, and are dearer than some of the other ones together.
func (c *chance) dear() api.Colour {
	p := c.colour(c.one(4, 8))
	p.Waves, p.Prices = ints(2, 3, 4, 5, c.between(10, 30), c.between(20, 60)), nil
	for n := range p.Waves {
		p.Prices = append(p.Prices, c.between(0, 4)+n/4*c.between(2, 10))
	}
	return p
}

// kinds returns of which kinds a colour is.
func (m model) kinds() []string {
	fewest := m.fewest()
	if fewest == noTwo() {
		return []string{"none"}
	}
	many, first := fewest[0].(int), fewest[1].(int)
	cheapest := m.cheapest()[1].(int)
	also := func(cost func(set int) int, best int) bool {
		for set := best + 1; set <= m.all(); set++ {
			if m.partsAll(set) && cost(set) == cost(best) {
				return true
			}
		}
		return false
	}
	spare, reach := m.spare(m.all())[0], m.reach(1)
	var list []string
	for _, kind := range []struct {
		name string
		is   bool
	}{
		{"one length", len(m.lengths) == 1},
		{"one colour", many == 1},
		{"many colours", many >= 3},
		{"several fewest", also(count, first)},
		{"cheapest are not fewest", count(cheapest) > many},
		{"several cheapest", also(m.price, cheapest)},
		{"reached are some, but not all", reach > m.lengths[0] && reach < slices.Max(m.lengths)},
		{"some are spared", spare != 0 && spare != m.all()},
		{"all are spared", spare == m.all()},
		{"next is not the first", m.all() > 1 && m.next(0)[0] != 0},
	} {
		if kind.is {
			list = append(list, kind.name)
		}
	}
	return list
}

// TestWidest: P11.3 to P11.8, and P1. As many lengths as there can be, in as many colours.
func TestWidest(t *testing.T) {
	for _, c := range []api.Colour{
		made(ints(60, 59, 58, 57, 56, 55), ints(50, 40, 30, 20, 10, 0), 1800, 2000, 1, 0),
		made(ints(60, 59, 58, 57, 56, 55), ints(9, 9, 9, 9, 9, 9), 0, 200, 1, 4),
		made(ints(60, 60, 60, 60, 60, 60), ints(9, 9, 9, 9, 9, 9), 300, 500, 1, 1),
		made(ints(20, 21, 22, 23, 19, 2), ints(3, 1, 4, 1, 5, 9), 1, 201, 1, 0),
	} {
		compareAll(t, c, 0, 9, 21, 63)
	}
}

// TestFringe: P11.1. The parts are those that layer 1 tells, of all lengths and all waves.
func TestFringe(t *testing.T) {
	c := chance(2)
	for wave := 2; wave <= 60; wave++ {
		p := made(ints(20, wave), ints(0, 0), 0, 0, 1, 0)
		for range cases {
			a, b := c.between(0, 2000), c.between(0, 2000)
			f := api.Fringe{Waves: ints(wave)}
			_, one, _ := fringe.Part(f, a, 0)
			_, other, e := fringe.Part(f, b, 0)
			same(t, "Apart", two(colour.Apart(p, 1, a, b)), two(round(one, other), e))
			if t.Failed() {
				t.Fatalf("the wave is %d, and the lengths are %d and %d", wave, a, b)
			}
		}
	}
}

// TestTrue: P11.9, P2 and P3. However long a block truly is, and whatever is read: of the lengths that agree no two are parted, and no more agree than Pairs tells; the true one does.
func TestTrue(t *testing.T) {
	c := chance(3)
	alone, several, worst := 0, 0, 0
	for range cases * 2 {
		p := c.colour(c.one(5, 20, 60))
		for range 4 {
			is, set := c.length(p), c.set(p)
			left := agreeing(p, set, c.readings(p, is))
			if !slices.Contains(left, is) {
				t.Fatalf("%v: %d is not among %v", p, is, left)
			}
			for _, a := range left {
				for _, b := range left {
					if parts, e := colour.Parts(p, set, a, b); parts || e != api.OK {
						t.Fatalf("%v: %d and %d agree, and %b parts them, %v", p, a, b, set, e)
					}
				}
			}
			pairs, most, e := colour.Pairs(p, set)
			if e != api.OK || len(left) > most {
				t.Fatalf("%v: %v agree, and told by %b are %d, %v", p, left, set, most, e)
			}
			if _, _, e := colour.Alike(p, set); (e == api.ErrNone) != (pairs == 0) || e == api.ErrNone && len(left) != 1 {
				t.Fatalf("%v: %v agree, though all are parted by %b, %d pairs, %v", p, left, set, pairs, e)
			}
			switch {
			case len(left) == most && most > 1:
				worst++
			case len(left) == 1:
				alone++
			default:
				several++
			}
		}
	}
	if alone < cases || several < cases || worst < cases {
		t.Errorf("alone are %d, several %d, and as many as told %d", alone, several, worst)
	}
}

// TestJust: P11.9. Two lengths that are told to be alike can agree with the same readings, in all colours of the set; a length is no more apart than that.
func TestJust(t *testing.T) {
	c := chance(4)
	found := 0
	for range cases {
		p := c.colour(c.one(5, 20, 60))
		set := c.set(p)
		a, b, e := colour.Alike(p, set)
		if e != api.OK {
			continue
		}
		found++
		for n, wave := range p.Waves {
			agree := func(read int) bool {
				return round(partOf(wave, a), read) <= p.Error && round(partOf(wave, b), read) <= p.Error
			}
			some := false
			for read := range 20 {
				some = some || agree(read)
			}
			if has(set, n) && !some {
				t.Fatalf("%v: %d and %d cannot both agree with what is read in %d", p, a, b, n)
			}
		}
	}
	if found < cases/4 {
		t.Errorf("only %d are alike", found)
	}
}

// TestBack: P11.9. Two lengths are as much apart as the other way round, and parted by the same sets; a length is not apart from itself.
func TestBack(t *testing.T) {
	c := chance(5)
	for range cases {
		p := c.colour(20)
		for range 10 {
			n, set, a, b := c.below(len(p.Waves)), c.set(p), c.between(0, 2000), c.between(0, 2000)
			same(t, "Apart", two(colour.Apart(p, n, b, a)), two(colour.Apart(p, n, a, b)))
			same(t, "Parts", two(colour.Parts(p, set, b, a)), two(colour.Parts(p, set, a, b)))
			same(t, "Apart of itself", two(colour.Apart(p, n, a, a)), number(0))
			same(t, "Parts of itself", two(colour.Parts(p, set, a, a)), no())
			if far, _ := colour.Apart(p, n, a, b); far < 0 || far > 10 {
				t.Fatalf("%v: %d and %d are %d apart", p, a, b, far)
			}
		}
	}
}

// isNoLess fails unless a colour and a set part at least what another colour and its set part.
func isNoLess(t *testing.T, c api.Colour, set int, than api.Colour, by int) {
	t.Helper()
	lengths := lengthsOf(c)
	for i, a := range lengths {
		for _, b := range lengths[i+1:] {
			more, _ := colour.Parts(c, set, a, b)
			if less, _ := colour.Parts(than, by, a, b); less && !more {
				t.Fatalf("%v: %b does not part %d and %d, and of %v %b does", c, set, a, b, than, by)
			}
		}
	}
	many, worst, e := colour.Pairs(c, set)
	if most, worse, _ := colour.Pairs(than, by); e != api.OK || many > most || worst > worse {
		t.Fatalf("%v: by %b pairs are %d, %d, and of %v by %b %d, %d", c, set, many, worst, than, by, most, worse)
	}
	if _, _, e := colour.Alike(than, by); e == api.ErrNone {
		_, _, e := colour.Alike(c, set)
		same(t, "Alike", e, api.ErrNone)
	}
	_, left, e := colour.Next(c, set)
	if _, most, f := colour.Next(than, by); e == api.OK && f == api.OK && len(c.Waves) == len(than.Waves) && set == by && left > most {
		t.Fatalf("%v: next to %b are %d, and of %v %d", c, set, left, than, most)
	}
}

// isNoDearer fails unless of a colour no more are needed, nor dearer ones, than of another one.
func isNoDearer(t *testing.T, c, than api.Colour) {
	t.Helper()
	few, _, e := colour.Fewest(c)
	if many, _, f := colour.Fewest(than); f == api.OK && (e != api.OK || few > many) {
		t.Fatalf("%v: %d are needed, %v, and of %v %d", c, few, e, than, many)
	}
	price, _, e := colour.Cheapest(c)
	if dear, _, f := colour.Cheapest(than); f == api.OK && (e != api.OK || price > dear) {
		t.Fatalf("%v: the cheapest are for %d, %v, and of %v for %d", c, price, e, than, dear)
	}
}

// TestMore: P11.10. With a colour more in a set, a lesser Error, or fewer lengths no pair is parted less; with a colour more that can be bought no more are needed, nor dearer ones.
func TestMore(t *testing.T) {
	c := chance(6)
	for range cases / 2 {
		p := c.colour(12)
		set := c.set(p)
		isNoLess(t, p, set|1<<c.below(len(p.Waves)), p, set)
		short, _ := colour.Reach(p, set)
		if long, _ := colour.Reach(p, set|1<<c.below(len(p.Waves))); long < short {
			t.Fatalf("%v: with a colour more than %b the reach is %d, and not %d", p, set, long, short)
		}
		exact := clone(p)
		exact.Error = c.between(0, p.Error)
		isNoLess(t, exact, set, p, set)
		isNoDearer(t, exact, p)
		fewer := c.fewer(p)
		isNoLess(t, fewer, set, p, set)
		isNoDearer(t, fewer, p)
		if len(p.Waves) < api.ColourColours {
			more := clone(p)
			more.Waves, more.Prices = append(more.Waves, c.wave()), append(more.Prices, c.between(0, 5))
			isNoLess(t, more, set, p, set)
			isNoDearer(t, more, p)
		}
	}
}

// fewer returns a colour with some of the lengths.
func (c *chance) fewer(p api.Colour) api.Colour {
	list := lengthsOf(p)
	lo, hi := c.below(len(list)), c.below(len(list))
	p.Length = api.Span{Lo: list[min(lo, hi)], Hi: list[max(lo, hi)]}
	if every := p.Every * c.between(1, 3); every <= api.ColourEvery {
		p.Every = every
	}
	return clone(p)
}

// moved returns the same colours with other numbers: the colour n has the number order[n].
func moved(p api.Colour, order []int) api.Colour {
	q := clone(p)
	for n, to := range order {
		q.Waves[to], q.Prices[to] = p.Waves[n], p.Prices[n]
	}
	return q
}

// movedSet returns the set with the new numbers.
func movedSet(set int, order []int) int {
	is := 0
	for n, to := range order {
		is |= set >> n & 1 << to
	}
	return is
}

// TestOtherNumbers: P11.10 and P11. If colours are numbered otherwise as few are needed, and as cheap ones, and all that is told of a set is told of the set with the new numbers.
func TestOtherNumbers(t *testing.T) {
	c := chance(7)
	for range cases {
		p := c.colour(20)
		order := c.order(len(p.Waves))
		q := moved(p, order)
		few, _, e := colour.Fewest(p)
		least, _, f := colour.Fewest(q)
		same(t, "Fewest", two(least, f), two(few, e))
		few, _, e = colour.Cheapest(p)
		least, _, f = colour.Cheapest(q)
		same(t, "Cheapest", two(least, f), two(few, e))
		n, set, a, b := c.below(len(p.Waves)), c.set(p), c.between(0, 2000), c.between(0, 2000)
		to := movedSet(set, order)
		same(t, "Apart", two(colour.Apart(q, order[n], a, b)), two(colour.Apart(p, n, a, b)))
		same(t, "Parts", two(colour.Parts(q, to, a, b)), two(colour.Parts(p, set, a, b)))
		same(t, "Alike", three(colour.Alike(q, to)), three(colour.Alike(p, set)))
		same(t, "Pairs", three(colour.Pairs(q, to)), three(colour.Pairs(p, set)))
		same(t, "Reach", two(colour.Reach(q, to)), two(colour.Reach(p, set)))
		spare, e := colour.Spare(p, set)
		same(t, "Spare", two(colour.Spare(q, to)), two(movedSet(spare, order), e))
		_, left, e := colour.Next(p, set)
		_, least, f = colour.Next(q, to)
		same(t, "Next", two(least, f), two(left, e))
		if t.Failed() {
			t.Fatalf("the colour is %v, and then %v", p, q)
		}
	}
}

// TestLonger: P11.10. If all lengths are greater by a multiple of all waves all is as before, but that they are.
func TestLonger(t *testing.T) {
	c := chance(8)
	longer := 0
	for range cases * 2 {
		p := c.colour(30)
		for n := range p.Waves {
			p.Waves[n] = c.one(2, 3, 4, 5, 6, 10, 12, 15, 20, 30, 60)
		}
		period := periodOf(p)
		by := period * c.between(0, (2000-p.Length.Hi)/period)
		if by > 0 {
			longer++
		}
		q := clone(p)
		q.Length = api.Span{Lo: p.Length.Lo + by, Hi: p.Length.Hi + by}
		same(t, "Fewest", three(colour.Fewest(q)), three(colour.Fewest(p)))
		same(t, "Cheapest", three(colour.Cheapest(q)), three(colour.Cheapest(p)))
		n, set, a, b := c.below(len(p.Waves)), c.set(p), c.length(p), c.length(p)
		same(t, "Apart", two(colour.Apart(q, n, a+by, b+by)), two(colour.Apart(p, n, a, b)))
		same(t, "Apart of one of them", two(colour.Apart(q, n, a+by, b)), two(colour.Apart(p, n, a, b)))
		same(t, "Parts", two(colour.Parts(q, set, a+by, b+by)), two(colour.Parts(p, set, a, b)))
		a, b, e := colour.Alike(p, set)
		if e == api.OK {
			a, b = a+by, b+by
		}
		same(t, "Alike", three(colour.Alike(q, set)), three(a, b, e))
		same(t, "Pairs", three(colour.Pairs(q, set)), three(colour.Pairs(p, set)))
		reach, _ := colour.Reach(p, set)
		same(t, "Reach", two(colour.Reach(q, set)), number(reach+by))
		same(t, "Spare", two(colour.Spare(q, set)), two(colour.Spare(p, set)))
		same(t, "Next", three(colour.Next(q, set)), three(colour.Next(p, set)))
		if t.Failed() {
			t.Fatalf("the colour is %v, and then %v", p, q)
		}
	}
	if longer < cases {
		t.Errorf("only %d are longer", longer)
	}
}

// periodOf returns the least multiple of all waves, which it puts together one by one.
func periodOf(p api.Colour) int {
	period := 1
	for _, wave := range p.Waves {
		both := period
		for both%wave != 0 {
			both += period
		}
		period = both
	}
	return period
}

// TestOneAnother: P11.2 to P11.8. What the functions tell of the same colours agrees.
func TestOneAnother(t *testing.T) {
	c := chance(9)
	for range cases {
		p := c.colour(20)
		all := 1<<len(p.Waves) - 1
		for range 3 {
			set := c.set(p)
			_, _, alike := colour.Alike(p, set)
			many, worst, _ := colour.Pairs(p, set)
			reach, _ := colour.Reach(p, set)
			_, spare := colour.Spare(p, set)
			parts := alike == api.ErrNone
			same(t, "whether Pairs has none", many == 0, parts)
			same(t, "whether each one is alone", worst == 1, parts)
			same(t, "whether all are reached", reach == slices.Max(lengthsOf(p)), parts)
			same(t, "whether Spare is refused", spare == api.ErrRefuse, !parts)
			few, _, e := colour.Fewest(p)
			same(t, "whether fewer would do", parts && (e != api.OK || count(set) < few), false)
			if next, left, e := colour.Next(p, set); e == api.OK {
				many, _, _ := colour.Pairs(p, set|1<<next)
				same(t, "what is left by Next", left, many)
			}
		}
		_, _, e := colour.Alike(p, all)
		_, few, f := colour.Fewest(p)
		same(t, "whether there are Fewest", f == api.OK, e == api.ErrNone)
		if f == api.OK {
			same(t, "Spare of Fewest", two(colour.Spare(p, few)), number(0))
		}
		if t.Failed() {
			t.Fatalf("the colour is %v", p)
		}
	}
}

// TestReplay: P11. The same call returns the same, however often it is made.
func TestReplay(t *testing.T) {
	c := chance(10)
	for range cases / 8 {
		p := c.colour(30)
		for _, do := range calls(asked{c.below(len(p.Waves)), c.set(p), c.between(0, 2000), c.between(0, 2000)}) {
			first := do.do(p)
			for range 3 {
				same(t, do.name, do.do(p), first)
			}
		}
	}
}
