package plan_test

import (
	"slices"
	"testing"

	"blockworks/api"
	"blockworks/pair"
	"blockworks/plan"
)

// cases is how many plans each of these tests goes through.
const cases = 300

// TestModel: P8.1 to P8.7, of many plans.
func TestModel(t *testing.T) {
	c := chance(1)
	seen := map[string]int{}
	for range cases * 4 {
		p, _ := c.plan(c.below(3) == 0, true)
		m := modelOf(p)
		compareAll(t, p)
		for _, kind := range m.kinds() {
			seen[kind]++
		}
		if t.Failed() {
			t.Fatalf("the plan is %v", p)
		}
	}
	for _, kind := range []string{"clash", "none", "no reading", "all readings", "several fewest", "cheaper than fewest", "not the fewest", "none needed", "some needed, and more", "a long order", "not the first", "closed by some"} {
		if seen[kind] < cases/40 {
			t.Errorf("of %d plans only %d are of the kind: %s", cases*4, seen[kind], kind)
		}
	}
}

// kinds returns of which kinds a plan is.
func (m model) kinds() []string {
	if !m.truthful {
		return []string{"clash"}
	}
	if !m.enough(m.all()) {
		return []string{"none"}
	}
	fewest, cheapest, needed, order := m.fewest(), m.cheapest(), m.needed(), m.order()
	several := m.least(func(set int) bool { return m.enough(set) && count(set) == count(fewest) && set > fewest }, func(set int) []int { return nil })
	var list []string
	for _, kind := range []struct {
		name string
		is   bool
	}{
		{"no reading", fewest == 0},
		{"all readings", len(m.Pair.Reads) > 1 && fewest == m.all()},
		{"several fewest", several > 0},
		{"cheaper than fewest", m.price(cheapest) < m.price(fewest)},
		{"not the fewest", count(cheapest) > count(fewest)},
		{"none needed", fewest > 0 && needed == 0},
		{"some needed, and more", needed > 0 && fewest != needed},
		{"a long order", len(order) > count(fewest)},
		{"not the first", len(order) > 1 && order[0] > order[1]},
		{"closed by some", m.closed() > 0 && m.closed() != m.all()},
	} {
		if kind.is {
			list = append(list, kind.name)
		}
	}
	return list
}

// known returns what pair.Known tells of all blocks by a set of readings.
func known(t *testing.T, p api.Plan, set int) []api.Span {
	t.Helper()
	var list []api.Span
	for block := range p.Pair.Blocks {
		s, e := pair.Known(kept(p.Pair, set), block)
		if e != api.OK {
			t.Fatalf("%v by %b: %v", p, set, e)
		}
		list = append(list, s)
	}
	return list
}

// wellBy returns whether each block is known well enough by a set of readings.
func wellBy(t *testing.T, p api.Plan, set int) bool {
	t.Helper()
	for _, s := range known(t, p, set) {
		if s.Hi-s.Lo > p.Wide {
			return false
		}
	}
	return true
}

// enoughPlans goes through plans of which all readings are enough.
func enoughPlans(t *testing.T, seed chance, visit func(p api.Plan, is truth)) {
	t.Helper()
	visited := 0
	for range cases {
		p, is := seed.plan(false, false)
		if wellBy(t, p, full(len(p.Pair.Reads))) {
			visited++
			visit(p, is)
		}
		if t.Failed() {
			t.Fatalf("the plan is %v", p)
		}
	}
	if visited < cases/2 {
		t.Errorf("of %d plans only %d are known well enough", cases, visited)
	}
}

// TestKnown: P8.1, and pair.Known of blocks of which the model cannot go through all truths.
func TestKnown(t *testing.T) {
	c := chance(2)
	for range cases {
		p, _ := c.plan(false, false)
		set := c.between(0, full(len(p.Pair.Reads)))
		blocks, widest := 0, 0
		for block, s := range known(t, p, set) {
			widest = max(widest, s.Hi-s.Lo)
			if s.Hi-s.Lo <= p.Wide {
				blocks |= 1 << block
			}
		}
		same(t, "Blocks", three(plan.Blocks(p, set)), both(blocks, widest))
		if t.Failed() {
			t.Fatalf("the plan is %v", p)
		}
	}
}

// TestEnough: P8.9, P6 and P2. By the sets that are told each block is known as well as is wanted, and what is known contains what is true; by fewer readings, or cheaper ones, they are not known as well.
func TestEnough(t *testing.T) {
	enoughPlans(t, 3, func(p api.Plan, is truth) {
		fewest, _ := plan.Fewest(p)
		cheapest, price, _ := plan.Cheapest(p)
		order, _ := plan.Order(p)
		best, wide, _ := plan.Best(p, count(fewest))
		for _, set := range []int{fewest, cheapest, setOf(order...), best} {
			if !wellBy(t, p, set) {
				t.Errorf("%b is not enough", set)
			}
			for block, s := range known(t, p, set) {
				if !inside(is.deviations[block], s) {
					t.Errorf("by %b the block %d, which is %d, is %v", set, block, is.deviations[block], s)
				}
			}
		}
		if wide > p.Wide {
			t.Errorf("best are %b, %d wide", best, wide)
		}
		m := model{Plan: p}
		same(t, "the price", price, m.price(cheapest))
		for set := range m.all() + 1 {
			blocks, _, _ := plan.Blocks(p, set)
			all := blocks == full(len(p.Pair.Blocks))
			if all && (count(set) < count(fewest) || m.price(set) < price) {
				t.Errorf("%b is enough, and told are %b and %b", set, fewest, cheapest)
			}
		}
	})
}

// TestFirst: P8.2, P8.3 and P8.5. No set that is as good comes before the one that is told.
func TestFirst(t *testing.T) {
	enoughPlans(t, 4, func(p api.Plan, _ truth) {
		fewest, _ := plan.Fewest(p)
		cheapest, price, _ := plan.Cheapest(p)
		m := model{Plan: p}
		for many := range len(p.Pair.Reads) + 1 {
			best, wide, _ := plan.Best(p, many)
			if count(best) > many {
				t.Errorf("of at most %d readings %b are best", many, best)
			}
			for set := range m.all() + 1 {
				_, widest, _ := plan.Blocks(p, set)
				if count(set) <= many && comesBefore([]int{widest, count(set), set}, []int{wide, count(best), best}) {
					t.Errorf("%b is %d wide, and told is %b, %d", set, widest, best, wide)
				}
			}
		}
		for set := range m.all() + 1 {
			if _, widest, _ := plan.Blocks(p, set); widest > p.Wide {
				continue
			}
			if comesBefore([]int{count(set), set}, []int{count(fewest), fewest}) || comesBefore([]int{m.price(set), count(set), set}, []int{price, count(cheapest), cheapest}) {
				t.Errorf("%b is enough, and told are %b and %b", set, fewest, cheapest)
			}
		}
	})
}

func comesBefore(a, b []int) bool { return slices.Compare(a, b) < 0 }

// TestMoreReadings: P8.9 and P2. With a reading more no block is known less well.
func TestMoreReadings(t *testing.T) {
	c := chance(5)
	for range cases {
		p, _ := c.plan(false, false)
		for set := range full(len(p.Pair.Reads)) + 1 {
			blocks, wide, _ := plan.Blocks(p, set)
			for i := range p.Pair.Reads {
				more, less, _ := plan.Blocks(p, set|1<<i)
				if blocks&^more != 0 || less > wide {
					t.Fatalf("%v: by %b %b, %d, and with %d %b, %d", p, set, blocks, wide, i, more, less)
				}
			}
		}
		least := api.PlanWide
		for many := range api.PairReads + 1 {
			_, wide, _ := plan.Best(p, many)
			if wide > least {
				t.Fatalf("%v: of at most %d readings the best are %d wide, of fewer %d", p, many, wide, least)
			}
			least = wide
		}
	}
}

// TestOneMore: P2 and P6. In a plan with a reading more no more of them are needed, the cheapest cost no more, and the best are no wider; if there were enough there still are.
func TestOneMore(t *testing.T) {
	c := chance(6)
	enoughPlans(t, 7, func(p api.Plan, is truth) {
		if len(p.Pair.Blocks) == 1 || len(p.Pair.Reads) == api.PairReads {
			return
		}
		q := clone(p)
		q.Pair.Reads = append(q.Pair.Reads, c.reading(p.Pair, is, false))
		q.Prices = append(q.Prices, c.between(0, 3))
		fewest, _ := plan.Fewest(p)
		fewer, e := plan.Fewest(q)
		_, price, _ := plan.Cheapest(p)
		_, cheaper, f := plan.Cheapest(q)
		needed, _ := plan.Needed(p)
		still, g := plan.Needed(q)
		if e != api.OK || f != api.OK || g != api.OK || count(fewer) > count(fewest) || cheaper > price || still&^needed&^(1<<len(p.Pair.Reads)) != 0 {
			t.Errorf("fewest %b, for %d, needed %b; with %v %b, %v, for %d, %v, needed %b, %v", fewest, price, needed, q, fewer, e, cheaper, f, still, g)
		}
		for many := range api.PairReads + 1 {
			_, wide, _ := plan.Best(p, many)
			if _, less, _ := plan.Best(q, many); less > wide {
				t.Errorf("the best of %d are %d wide, and of %v %d", many, wide, q, less)
			}
		}
	})
}

// TestNeededReadings: P8.9. Readings that are needed are in each set that is enough, and others are not in all of them.
func TestNeededReadings(t *testing.T) {
	enoughPlans(t, 8, func(p api.Plan, _ truth) {
		needed, _ := plan.Needed(p)
		inAll := full(len(p.Pair.Reads))
		for set := range inAll + 1 {
			if wellBy(t, p, set) {
				inAll &= set
			}
		}
		same(t, "Needed", needed, inAll)
	})
}

// TestOneAnother: P8.9. The cheapest readings cost no more than the fewest ones, of which there are no more than of the cheapest ones, or than Order tells.
func TestOneAnother(t *testing.T) {
	enoughPlans(t, 9, func(p api.Plan, _ truth) {
		fewest, _ := plan.Fewest(p)
		cheapest, price, _ := plan.Cheapest(p)
		order, _ := plan.Order(p)
		m := model{Plan: p}
		if price > m.price(fewest) || count(fewest) > count(cheapest) || count(fewest) > len(order) {
			t.Errorf("fewest %b, cheapest %b for %d, order %v", fewest, cheapest, price, order)
		}
		p.Prices = slices.Repeat([]int{3}, len(p.Prices))
		same(t, "the cheapest, if all cost the same", three(plan.Cheapest(p)), both(fewest, 3*count(fewest)))
	})
}

// TestSteps: P8.6. Each reading of the order is another one, by those before it blocks are not known well enough, and none would have left blocks less wide.
func TestSteps(t *testing.T) {
	enoughPlans(t, 10, func(p api.Plan, _ truth) {
		order, _ := plan.Order(p)
		taken := 0
		for _, next := range order {
			if has(taken, next) || wellBy(t, p, taken) {
				t.Errorf("of %v %d is not wanted", order, next)
			}
			for i := range p.Pair.Reads {
				a, b := together(known(t, p, taken|1<<i)), together(known(t, p, taken|1<<next))
				if !has(taken, i) && (a < b || a == b && i < next) {
					t.Errorf("of %v %d should come before %d", order, i, next)
				}
			}
			taken |= 1 << next
		}
		same(t, "that all of them are enough", wellBy(t, p, taken), true)
	})
}

func together(spans []api.Span) int {
	sum := 0
	for _, s := range spans {
		sum += s.Hi - s.Lo
	}
	return sum
}

// TestGroups: P8.9 and P8.7. As many readings are closed as there are blocks, less the groups; none of them can be left out.
func TestGroups(t *testing.T) {
	c := chance(11)
	for range cases {
		p, _ := c.plan(true, false)
		groups, _ := pair.Groups(p.Pair)
		set, e := plan.Closed(p)
		same(t, "Closed", two(count(set), e), number(len(p.Pair.Blocks)-groups))
		for less := range full(len(p.Pair.Reads)) + 1 {
			left, _ := pair.Groups(kept(p.Pair, less))
			if left == groups && count(less) <= count(set) && less < set || less == set && left != groups {
				t.Fatalf("%v: closed are %b, and by %b there are %d groups", p, set, less, left)
			}
		}
	}
}

// TestWider: P8.9. If blocks have to be known less well no more readings are told, and none is needed that was not.
func TestWider(t *testing.T) {
	enoughPlans(t, 12, func(p api.Plan, _ truth) {
		fewest, _ := plan.Fewest(p)
		needed, _ := plan.Needed(p)
		_, price, _ := plan.Cheapest(p)
		order, _ := plan.Order(p)
		for wide := p.Wide; wide <= api.PlanWide; wide++ {
			q := within(wide, p)
			fewer, _ := plan.Fewest(q)
			less, _ := plan.Needed(q)
			_, cheaper, _ := plan.Cheapest(q)
			begun, _ := plan.Order(q)
			if count(fewer) > count(fewest) || less&^needed != 0 || cheaper > price || len(begun) > len(order) || !slices.Equal(begun, order[:len(begun)]) {
				t.Errorf("%d: %b, %b, %d, %v", wide, fewer, less, cheaper, begun)
			}
		}
	})
}

// moved returns a set by the other numbers of what is in it.
func moved(set int, to []int) int {
	result := 0
	for i, n := range to {
		result |= set >> i & 1 << n
	}
	return result
}

// TestNumbers: P11. If blocks are numbered otherwise only their numbers change.
func TestNumbers(t *testing.T) {
	c := chance(13)
	for range cases {
		p, _ := c.plan(c.below(4) == 0, false)
		to := c.order(len(p.Pair.Blocks))
		q := clone(p)
		for i, s := range p.Pair.Blocks {
			q.Pair.Blocks[to[i]] = s
		}
		for i, r := range p.Pair.Reads {
			q.Pair.Reads[i].A, q.Pair.Reads[i].B = to[r.A], to[r.B]
		}
		reads := c.between(0, full(len(p.Pair.Reads)))
		for _, call := range calls(reads, c.between(0, 8)) {
			if call.name != "Blocks" {
				same(t, call.name, call.do(q), call.do(p))
			}
		}
		blocks, wide, e := plan.Blocks(p, reads)
		same(t, "Blocks", three(plan.Blocks(q, reads)), three(moved(blocks, to), wide, e))
		if t.Failed() {
			t.Fatalf("the plans are %v and %v", p, q)
		}
	}
}

// TestReordered: P11. The order of readings makes no difference to how well blocks are known, how few readings are told, and what they cost; those that are needed have other numbers alone.
func TestReordered(t *testing.T) {
	c := chance(14)
	for range cases {
		p, _ := c.plan(c.below(4) == 0, false)
		to := c.order(len(p.Pair.Reads))
		q := clone(p)
		for i, n := range to {
			q.Pair.Reads[n], q.Prices[n] = p.Pair.Reads[i], p.Prices[i]
		}
		set := c.between(0, full(len(to)))
		many := c.between(0, 8)
		same(t, "Blocks", three(plan.Blocks(q, moved(set, to))), three(plan.Blocks(p, set)))
		same(t, "Fewest", sized(plan.Fewest(q)), sized(plan.Fewest(p)))
		same(t, "Cheapest", sizedToo(plan.Cheapest(q)), sizedToo(plan.Cheapest(p)))
		same(t, "Best", sizedToo(plan.Best(q, many)), sizedToo(plan.Best(p, many)))
		same(t, "Closed", sized(plan.Closed(q)), sized(plan.Closed(p)))
		needed, e := plan.Needed(p)
		same(t, "Needed", two(plan.Needed(q)), two(moved(needed, to), e))
		if t.Failed() {
			t.Fatalf("the plans are %v and %v", p, q)
		}
	}
}

// sized and sizedToo put how many readings a set has into one value with what else is told.
func sized(set int, e api.Errno) [2]any       { return two(count(set), e) }
func sizedToo(set, n int, e api.Errno) [3]any { return three(count(set), n, e) }

// TestReplay: P11. The same call returns the same, however often it is made.
func TestReplay(t *testing.T) {
	c := chance(15)
	for range cases / 8 {
		p, _ := c.plan(c.below(4) == 0, false)
		for _, call := range calls(c.between(0, full(len(p.Pair.Reads))), c.between(0, 8)) {
			first := call.do(p)
			for range 3 {
				same(t, call.name, call.do(p), first)
			}
		}
	}
}
