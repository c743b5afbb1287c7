package plan_test

import (
	"reflect"
	"slices"
	"testing"

	"blockworks/api"
	"blockworks/plan"
)

// planP to planN are the plans of the chapter's examples.
func planP() api.Plan {
	reads := []api.PairRead{read(1, 0, 0, 3, 4), read(2, 0, 10, 3, 3), read(1, 2, 20, 5, 7)}
	return api.Plan{
		Pair:   api.Pair{Blocks: spans(0, 0, -5, 5, -5, 5), Zero: span(0, 1), Rate: span(2, 2), Reads: reads},
		Wide:   2,
		Prices: []int{5, 4, 1},
	}
}

func planQ() api.Plan { return within(3, planP()) }
func planR() api.Plan { return within(1, planP()) }

func planN() api.Plan {
	p := planP()
	p.Pair.Reads = append(p.Pair.Reads, read(2, 1, 0, 5, 5))
	p.Prices = append(p.Prices, 1)
	return p
}

// within returns a plan by which blocks have to be known so well.
func within(wide int, p api.Plan) api.Plan {
	p.Wide = wide
	return p
}

// still returns a plan whose comparator always shows 0 of equal blocks, and whose readings cost nothing.
func still(wide int, blocks []api.Span, reads ...api.PairRead) api.Plan {
	return api.Plan{Pair: api.Pair{Blocks: blocks, Reads: reads}, Wide: wide, Prices: make([]int, len(reads))}
}

// costing returns a plan whose readings cost so much.
func costing(p api.Plan, prices ...int) api.Plan {
	p.Prices = prices
	return p
}

// spans returns spans of which the ends stand one after the other.
func spans(ends ...int) []api.Span {
	var list []api.Span
	for e := range slices.Chunk(ends, 2) {
		list = append(list, span(e[0], e[1]))
	}
	return list
}

// setOf returns the set of some numbers.
func setOf(numbers ...int) int {
	set := 0
	for _, n := range numbers {
		set |= 1 << n
	}
	return set
}

// same fails unless what a call returned is what is wanted.
func same(t *testing.T, call string, got, want any) {
	t.Helper()
	if !reflect.DeepEqual(got, want) {
		t.Errorf("%s: got %v, want %v", call, got, want)
	}
}

// two and three put the results of a call into one value.
func two(a int, e api.Errno) [2]any      { return [2]any{a, e} }
func three(a, b int, e api.Errno) [3]any { return [3]any{a, b, e} }

// row puts the results of Order into one value; nil and an empty list are the same (R3).
func row(list []int, e api.Errno) [2]any {
	if len(list) == 0 {
		list = nil
	}
	return [2]any{list, e}
}

func number(n int) [2]any       { return two(n, api.OK) }
func both(a, b int) [3]any      { return three(a, b, api.OK) }
func these(reads ...int) [2]any { return row(reads, api.OK) }

func TestExamples(t *testing.T) {
	p, q, r, n := planP(), planQ(), planR(), planN()
	same(t, "Blocks P none", three(plan.Blocks(p, 0)), both(1, 10))
	same(t, "Blocks P A B", three(plan.Blocks(p, 3)), both(7, 2))
	same(t, "Blocks P A C", three(plan.Blocks(p, 5)), both(3, 3))
	same(t, "Fewest P", two(plan.Fewest(p)), number(3))
	same(t, "Fewest Q", two(plan.Fewest(q)), number(3))
	same(t, "Fewest R", two(plan.Fewest(r)), two(0, api.ErrNone))
	same(t, "Cheapest P", three(plan.Cheapest(p)), both(3, 9))
	same(t, "Cheapest Q", three(plan.Cheapest(q)), both(5, 6))
	same(t, "Needed P", two(plan.Needed(p)), number(3))
	same(t, "Needed Q", two(plan.Needed(q)), number(1))
	same(t, "Best P 1", three(plan.Best(p, 1)), both(0, 10))
	same(t, "Best P 2", three(plan.Best(p, 2)), both(3, 2))
	same(t, "Best P 8", three(plan.Best(p, 8)), both(3, 2))
	same(t, "Order P", row(plan.Order(p)), these(1, 0))
	same(t, "Order Q", row(plan.Order(q)), these(1, 0))
	same(t, "Closed P", two(plan.Closed(p)), number(3))
	same(t, "Fewest N", two(plan.Fewest(n)), two(0, api.ErrClash))
	same(t, "Closed N", two(plan.Closed(n)), number(3))
}

// fixed returns blocks of which the first one is known exactly, and the others not at all.
func fixed(blocks int) []api.Span {
	list := slices.Repeat(spans(-20, 20), blocks)
	list[0] = span(0, 0)
	return list
}

// chain returns a plan with a block that is known, and readings that lead from each block to the next one.
func chain(wide int) api.Plan {
	return still(wide, fixed(4), read(1, 0, 0, 3, 4), read(2, 1, 0, 0, 2), read(3, 2, 0, 5, 8))
}

// TestBlocks: P8.1. Readings that are not of the set tell nothing, and those of it tell together.
func TestBlocks(t *testing.T) {
	drifts := api.Plan{Pair: api.Pair{Blocks: spans(0, 0, -20, 20, 1, 1), Zero: span(0, 4), Reads: []api.PairRead{read(1, 0, 0, 0, 0), read(2, 0, 0, 4, 4)}}, Prices: []int{1, 1}}
	for _, x := range []struct {
		p                   api.Plan
		reads, blocks, wide int
	}{
		{still(0, spans(-20, 20)), 0, 0, 40}, {still(40, spans(-20, 20)), 0, 1, 40}, {still(39, spans(-20, 20)), 0, 0, 40}, {still(0, spans(7, 7)), 0, 1, 0}, {still(0, spans(1, 1, 2, 3, 4, 4)), 0, setOf(0, 2), 1}, {still(1, spans(1, 1, 2, 3, 4, 4)), 0, 7, 1},
		{still(3, spans(0, 3, 0, 4, 0, 2, 0, 5, 1, 4)), 0, setOf(0, 2, 4), 5}, {still(5, spans(0, 3, 0, 4, 0, 2, 0, 5, 1, 4)), 0, 31, 5},
		{chain(3), 0, setOf(0), 40}, {chain(3), 1, setOf(0, 1), 40}, {chain(3), 2, setOf(0), 40}, {chain(3), 3, setOf(0, 1, 2), 40}, {chain(3), 5, setOf(0, 1), 35}, {chain(3), 7, setOf(0, 1, 2), 6}, {chain(6), 7, 15, 6}, {chain(1), 7, setOf(0, 1), 6}, {chain(0), 7, setOf(0), 6}, {chain(2), 7, setOf(0, 1), 6}, {chain(5), 7, setOf(0, 1, 2), 6},
		// The one reading tells what the comparator shows of equal blocks, and so helps the other one.
		{drifts, 0, setOf(0, 2), 40}, {drifts, 1, setOf(0, 2), 4}, {drifts, 2, setOf(0, 2), 40}, {drifts, 3, 7, 0},
		// A reading can help without being of the block.
		{still(2, spans(-5, 5, -5, 5, -5, 5), read(0, 1, 0, 10, 10), read(1, 2, 0, 0, 1)), 1, setOf(0, 1), 10}, {still(2, spans(-5, 5, -5, 5, -5, 5), read(0, 1, 0, 10, 10), read(1, 2, 0, 0, 1)), 2, 0, 10}, {still(2, spans(-5, 5, -5, 5, -5, 5), read(0, 1, 0, 10, 10), read(1, 2, 0, 0, 1)), 3, 7, 0},
	} {
		m := modelOf(x.p)
		same(t, "the table", both(x.blocks, x.wide), both(m.blocks(x.reads), m.widest(x.reads)))
		same(t, "Blocks", three(plan.Blocks(x.p, x.reads)), both(x.blocks, x.wide))
	}
}

// twice returns a plan with readings of the blocks 1 and 2, two each, of which the first is better.
func twice(wide int) api.Plan {
	return still(wide, fixed(3), read(1, 0, 0, 1, 3), read(2, 0, 0, 4, 6), read(0, 1, 0, -4, -1), read(2, 0, 0, 3, 6))
}

// apart returns a plan by which readings are good only together: each one alone leaves it open what the comparator shows of equal blocks.
func apart() api.Plan {
	p := still(0, fixed(2), read(1, 0, 0, 5, 5), read(0, 1, 0, -1, -1), read(1, 0, 60, 0, 9), read(0, 1, 60, -1, -1))
	p.Pair.Zero = span(0, 4)
	return p
}

// TestFewest: P8.2. Of as few readings those of the least number are told, and a block that is just as wide as is wanted is known well enough.
func TestFewest(t *testing.T) {
	for _, x := range []struct {
		p     api.Plan
		reads int
	}{
		{still(40, spans(-20, 20)), 0}, {still(0, spans(3, 3, 4, 4)), 0}, {still(40, fixed(2), read(1, 0, 0, 1, 1)), 0}, {still(39, fixed(2), read(1, 0, 0, 1, 1)), 1}, {still(0, fixed(2), read(1, 0, 0, 1, 1)), 1}, {still(0, fixed(2), read(1, 0, 0, 1, 1), read(1, 0, 0, 1, 1)), 1}, {still(0, fixed(2), read(1, 0, 0, 0, 1), read(1, 0, 0, 1, 1)), 2}, {still(0, fixed(2), read(1, 0, 0, 0, 1), read(1, 0, 0, 1, 2)), 3}, {still(0, fixed(2), read(1, 0, 0, 0, 1), read(1, 0, 0, 1, 2), read(1, 0, 0, 1, 1)), 4}, {still(0, fixed(2), read(1, 0, 0, 0, 2), read(1, 0, 0, 0, 1), read(1, 0, 0, 1, 3), read(1, 0, 0, 1, 2)), setOf(1, 2)},
		{chain(6), 7}, {chain(34), 7}, {chain(35), setOf(0, 2)}, {chain(39), setOf(0, 2)}, {within(40, chain(0)), 0},
		{twice(2), setOf(0, 1)}, {twice(3), setOf(0, 1)}, {twice(29), setOf(0, 1)}, {still(3, fixed(3), read(1, 0, 0, 1, 3), read(1, 0, 0, 0, 3), read(2, 0, 0, 1, 5), read(2, 0, 0, 1, 4)), setOf(0, 3)}, {still(2, fixed(3), read(1, 0, 0, 1, 5), read(1, 0, 0, 1, 3), read(2, 0, 0, 1, 3), read(2, 0, 0, 1, 2)), setOf(1, 2)},
		{apart(), setOf(0, 1)}, {within(4, apart()), setOf(0)},
		// Through the other two blocks, or straight on.
		{still(2, fixed(3), read(1, 0, 0, 1, 2), read(2, 1, 0, 1, 2), read(2, 0, 0, 2, 5)), setOf(0, 1)}, {still(2, fixed(3), read(2, 1, 0, 1, 2), read(1, 0, 0, 1, 2), read(2, 0, 0, 2, 4)), setOf(0, 1)}, {still(2, fixed(3), read(2, 1, 0, 1, 3), read(1, 0, 0, 1, 2), read(2, 0, 0, 2, 4)), setOf(1, 2)}, {still(0, fixed(5), read(4, 3, 0, 1, 1), read(4, 3, 0, 1, 1), read(3, 2, 0, 1, 1), read(4, 2, 0, 2, 2), read(2, 1, 0, 1, 1), read(4, 1, 0, 3, 3), read(3, 0, 0, 3, 3), read(1, 0, 0, 1, 1)), setOf(0, 2, 4, 6)},
	} {
		same(t, "the table", x.reads, modelOf(x.p).fewest())
		same(t, "Fewest", two(plan.Fewest(x.p)), number(x.reads))
	}
	for _, p := range []api.Plan{still(39, spans(-20, 20)), still(0, fixed(2), read(1, 0, 0, 1, 2)), chain(5), within(1, twice(0)), still(39, fixed(3), read(1, 0, 0, 1, 1)), planR()} {
		same(t, "Fewest", two(plan.Fewest(p)), two(0, api.ErrNone))
		same(t, "Cheapest", three(plan.Cheapest(p)), three(0, 0, api.ErrNone))
		same(t, "Needed", two(plan.Needed(p)), two(0, api.ErrNone))
		same(t, "Order", row(plan.Order(p)), row(nil, api.ErrNone))
	}
}

// TestCheapest: P8.3. The price counts first, then how many readings there are, then the number.
func TestCheapest(t *testing.T) {
	often := still(0, fixed(2), read(1, 0, 0, 1, 1), read(1, 0, 0, 1, 1), read(1, 0, 0, 0, 1), read(1, 0, 0, 1, 2))
	for _, x := range []struct {
		p            api.Plan
		reads, price int
	}{
		{still(40, spans(-20, 20)), 0, 0}, {costing(still(40, fixed(2), read(1, 0, 0, 1, 1)), 0), 0, 0}, {costing(still(0, fixed(2), read(1, 0, 0, 1, 1)), 20), 1, 20},
		{costing(often, 1, 1, 1, 1), setOf(0), 1}, {costing(often, 2, 1, 1, 1), setOf(1), 1}, {costing(often, 2, 2, 1, 1), setOf(0), 2}, {costing(often, 3, 3, 1, 1), setOf(2, 3), 2}, {costing(often, 3, 2, 2, 0), setOf(1), 2}, {costing(often, 20, 20, 10, 9), setOf(2, 3), 19}, {costing(often, 0, 0, 0, 0), setOf(0), 0}, {costing(often, 1, 1, 0, 0), setOf(2, 3), 0}, {costing(often, 20, 0, 0, 0), setOf(1), 0},
		{costing(chain(6), 0, 20, 20), 7, 40}, {costing(chain(35), 20, 0, 20), setOf(1, 2), 20}, {costing(chain(35), 0, 20, 20), setOf(0, 2), 20}, {costing(chain(39), 3, 3, 3), setOf(0, 2), 6}, {costing(chain(39), 3, 2, 3), setOf(1, 2), 5},
		{costing(twice(3), 5, 3, 4, 2), setOf(2, 3), 6}, {costing(twice(3), 5, 3, 5, 3), setOf(0, 1), 8}, {costing(twice(3), 5, 3, 4, 3), setOf(1, 2), 7}, {costing(twice(3), 5, 3, 5, 2), setOf(0, 3), 7}, {costing(twice(2), 5, 3, 0, 0), setOf(0, 1), 8}, {costing(twice(3), 0, 0, 0, 0), setOf(0, 1), 0},
		{costing(apart(), 20, 20, 20, 20), setOf(0, 1), 40},
		// Three readings can be cheaper than two, and just as cheap.
		{costing(still(0, fixed(2), read(1, 0, 0, 1, 1), read(1, 0, 0, 1, 3), read(1, 0, 0, -1, 2), read(1, 0, 0, -2, 1)), 3, 1, 0, 1), setOf(1, 3), 2}, {costing(still(2, fixed(4), read(1, 0, 0, 1, 2), read(2, 0, 0, 1, 2), read(3, 0, 0, 1, 2), read(2, 1, 0, 0, 0), read(3, 1, 0, 0, 0)), 1, 20, 20, 1, 1), setOf(0, 3, 4), 3}, {costing(still(40, fixed(4), read(1, 0, 0, 1, 2)), 0), 0, 0}, {costing(still(1, fixed(2), read(1, 0, 0, 0, 2), read(1, 0, 0, 1, 4), read(1, 0, 0, 1, 2)), 1, 1, 2), setOf(2), 2}, {costing(still(1, fixed(2), read(1, 0, 0, 0, 2), read(1, 0, 0, 1, 4), read(1, 0, 0, 1, 2)), 1, 1, 3), setOf(0, 1), 2},
	} {
		m := modelOf(x.p)
		same(t, "the table", both(x.reads, x.price), both(m.cheapest(), m.price(m.cheapest())))
		same(t, "Cheapest", three(plan.Cheapest(x.p)), both(x.reads, x.price))
	}
}

// TestNeeded: P8.4. A reading is needed if all others are not enough, whether or not few are.
func TestNeeded(t *testing.T) {
	for _, x := range []struct {
		p     api.Plan
		reads int
	}{
		{still(40, spans(-20, 20)), 0}, {still(40, fixed(2), read(1, 0, 0, 1, 1)), 0}, {still(39, fixed(2), read(1, 0, 0, 1, 1)), 1}, {still(0, fixed(2), read(1, 0, 0, 1, 1), read(1, 0, 0, 1, 1)), 0}, {still(0, fixed(2), read(1, 0, 0, 0, 1), read(1, 0, 0, 1, 2)), 3}, {still(0, fixed(2), read(1, 0, 0, 0, 1), read(1, 0, 0, 1, 2), read(1, 0, 0, 1, 1)), 0}, {still(1, fixed(2), read(1, 0, 0, 0, 2), read(1, 0, 0, 1, 4), read(1, 0, 0, 1, 3)), 1},
		{chain(6), 7}, {chain(34), 7}, {chain(35), setOf(2)}, {chain(39), setOf(2)}, {chain(40), 0}, {twice(2), setOf(0, 1)}, {twice(3), 0}, {apart(), setOf(0)}, {planQ(), 1}, {planP(), 3},
		{still(2, fixed(3), read(1, 0, 0, 1, 2), read(2, 1, 0, 1, 2), read(2, 0, 0, 2, 5)), setOf(0, 1)}, {still(2, fixed(3), read(1, 0, 0, 1, 2), read(2, 1, 0, 1, 2), read(2, 0, 0, 2, 4)), setOf(0)}, {still(3, fixed(3), read(1, 0, 0, 1, 2), read(2, 1, 0, 1, 2), read(2, 0, 0, 2, 4)), 0}, {still(0, fixed(4), read(1, 0, 0, 1, 1), read(2, 0, 0, 1, 1), read(2, 0, 0, 1, 1), read(3, 0, 0, 1, 1), read(2, 3, 0, -9, 9)), setOf(0, 3)}, {still(0, fixed(4), read(2, 3, 0, -9, 9), read(1, 0, 0, 1, 1), read(2, 0, 0, 1, 1), read(2, 1, 0, 0, 0), read(3, 0, 0, 1, 1)), setOf(4)},
	} {
		same(t, "the table", x.reads, modelOf(x.p).needed())
		same(t, "Needed", two(plan.Needed(x.p)), number(x.reads))
	}
}

// TestBest: P8.5. The widest block counts alone, whether it is known well enough or not; more readings than are of use are not told.
func TestBest(t *testing.T) {
	for _, x := range []struct {
		p                 api.Plan
		many, reads, wide int
	}{
		{still(0, spans(-20, 20)), 0, 0, 40}, {still(0, spans(-20, 20)), 8, 0, 40}, {still(0, spans(2, 3, 4, 4)), 1, 0, 1}, {still(0, fixed(2), read(1, 0, 0, 1, 1)), 0, 0, 40}, {still(0, fixed(2), read(1, 0, 0, 1, 1)), 1, 1, 0}, {still(0, fixed(2), read(1, 0, 0, 1, 1)), 8, 1, 0}, {still(40, fixed(2), read(1, 0, 0, 1, 1)), 8, 1, 0}, {still(0, fixed(2), read(1, 0, 0, -20, 20)), 8, 0, 40},
		{still(0, fixed(2), read(1, 0, 0, 1, 3), read(1, 0, 0, 1, 1), read(1, 0, 0, 1, 1), read(1, 0, 0, 0, 1)), 1, setOf(1), 0}, {still(0, fixed(2), read(1, 0, 0, 1, 3), read(1, 0, 0, 1, 1), read(1, 0, 0, 1, 1), read(1, 0, 0, 0, 1)), 2, setOf(1), 0}, {still(0, fixed(2), read(1, 0, 0, 1, 3), read(1, 0, 0, 0, 1)), 1, setOf(1), 1}, {still(0, fixed(2), read(1, 0, 0, 1, 3), read(1, 0, 0, 0, 1)), 2, setOf(0, 1), 0}, {still(0, fixed(2), read(1, 0, 0, 1, 3), read(1, 0, 0, 0, 2)), 1, setOf(0), 2}, {still(0, fixed(2), read(1, 0, 0, 1, 3), read(1, 0, 0, 0, 2)), 2, setOf(0, 1), 1},
		{chain(0), 0, 0, 40}, {chain(0), 1, 0, 40}, {chain(0), 2, setOf(0, 2), 35}, {chain(0), 3, 7, 6}, {chain(0), 7, 7, 6},
		{twice(0), 0, 0, 40}, {twice(0), 1, 0, 40}, {twice(0), 2, setOf(0, 1), 2}, {twice(0), 3, setOf(0, 1), 2}, {twice(40), 8, setOf(0, 1), 2},
		{apart(), 0, 0, 40}, {apart(), 1, setOf(0), 4}, {apart(), 2, setOf(0, 1), 0}, {apart(), 4, setOf(0, 1), 0}, {planP(), 0, 0, 10}, {planR(), 3, 3, 2},
		// That other blocks are known better makes no difference.
		{still(0, spans(0, 0, -20, 20, -3, 3), read(2, 0, 0, 1, 1), read(1, 0, 0, 0, 6)), 1, setOf(1), 6}, {still(0, spans(0, 0, -20, 20, -3, 3), read(2, 0, 0, 1, 1), read(1, 0, 0, 0, 6)), 2, setOf(1), 6}, {still(0, spans(0, 0, -20, 20, -3, 3), read(2, 0, 0, 1, 1), read(1, 0, 0, 0, 5)), 2, setOf(0, 1), 5},
	} {
		m := modelOf(x.p)
		same(t, "the table", both(x.reads, x.wide), both(m.best(x.many), m.widest(m.best(x.many))))
		same(t, "Best", three(plan.Best(x.p, x.many)), both(x.reads, x.wide))
	}
}

// joint returns a plan in which some readings tell nothing of the block 1 but together, as each one leaves open what the comparator shows.
func joint(reads ...api.PairRead) api.Plan {
	p := still(1, spans(0, 0, 0, 2), reads...)
	p.Pair.Zero = span(0, 4)
	return p
}

// TestOrder: P8.6. What each reading adds to those before it counts, of all blocks together.
func TestOrder(t *testing.T) {
	for _, x := range []struct {
		p     api.Plan
		reads []int
	}{
		{still(40, spans(-20, 20)), nil}, {still(40, fixed(2), read(1, 0, 0, 1, 1)), nil}, {still(39, fixed(2), read(1, 0, 0, 1, 1)), []int{0}}, {still(0, fixed(2), read(1, 0, 0, 1, 1), read(1, 0, 0, 1, 1)), []int{0}}, {still(0, fixed(2), read(1, 0, 0, 0, 1), read(1, 0, 0, 1, 1)), []int{1}}, {still(0, fixed(2), read(1, 0, 0, 0, 2), read(1, 0, 0, 1, 2), read(1, 0, 0, 0, 1)), []int{1, 2}}, {still(0, fixed(2), read(1, 0, 0, 1, 3), read(1, 0, 0, -1, 1)), []int{0, 1}},
		{chain(6), []int{0, 1, 2}}, {chain(35), []int{0, 1, 2}}, {chain(36), []int{0, 1, 2}}, {chain(40), nil}, {twice(2), []int{0, 1}}, {twice(3), []int{0, 1}}, {apart(), []int{0, 1}}, {within(4, apart()), []int{0}},
		{still(2, fixed(3), read(2, 1, 0, 1, 2), read(2, 0, 0, 2, 5), read(1, 0, 0, 1, 2)), []int{2, 0}}, {still(2, fixed(4), read(2, 1, 0, 1, 1), read(3, 2, 0, 1, 1), read(1, 0, 0, 1, 3)), []int{2, 0, 1}}, {still(2, fixed(4), read(3, 2, 0, 1, 1), read(2, 1, 0, 1, 1), read(1, 0, 0, 1, 3)), []int{2, 1, 0}},
		// A reading is taken even if it adds nothing, while no other one does.
		{still(0, spans(0, 0, 0, 5), read(1, 0, 0, -9, 9), read(1, 0, 0, 5, 9)), []int{1}}, {joint(read(1, 0, 0, -9, 9), read(1, 0, 0, 4, 9), read(0, 1, 0, -9, 2)), []int{0, 1, 2}}, {joint(read(0, 1, 0, -9, 2), read(1, 0, 0, -9, 9), read(1, 0, 0, 4, 9)), []int{0, 2}}, {joint(read(1, 0, 0, 4, 9), read(1, 0, 0, -9, 9), read(0, 1, 0, -9, 2)), []int{0, 2}}, {joint(read(0, 1, 0, 2, 2), read(1, 0, 0, 4, 9), read(0, 1, 0, -9, 2), read(1, 0, 0, 4, 4)), []int{0, 3}},
		// The two best ones are not among what is taken first.
		{still(3, fixed(3), read(1, 2, 0, 0, 0), read(1, 0, 0, 0, 3), read(2, 0, 0, 0, 3)), []int{1, 0}}, {still(1, fixed(2), read(1, 0, 0, 0, 6), read(1, 0, 0, -9, 1), read(1, 0, 0, -1, 5)), []int{0, 1}}, {still(0, fixed(2), read(1, 0, 0, -6, 0), read(1, 0, 0, -3, 2), read(1, 0, 0, 0, 7)), []int{1, 2, 0}},
	} {
		same(t, "the table", these(x.reads...), these(modelOf(x.p).order()...))
		same(t, "Order", row(plan.Order(x.p)), these(x.reads...))
	}
}

// TestClosed: P8.7. Readings hang together whatever they tell, also if they clash.
func TestClosed(t *testing.T) {
	for _, x := range []struct {
		blocks int
		pairs  [][2]int
		reads  int
	}{
		{1, nil, 0}, {2, nil, 0}, {5, nil, 0}, {2, [][2]int{{0, 1}}, 1}, {2, [][2]int{{1, 0}, {0, 1}, {1, 0}}, 1}, {5, [][2]int{{3, 4}, {4, 3}}, 1}, {3, [][2]int{{0, 1}, {1, 2}, {2, 0}}, setOf(0, 1)}, {3, [][2]int{{0, 1}, {1, 0}, {0, 1}, {2, 0}}, setOf(0, 3)}, {3, [][2]int{{0, 1}, {1, 0}, {0, 2}, {2, 0}, {1, 2}}, setOf(0, 2)},
		{4, [][2]int{{0, 1}, {1, 2}, {2, 0}, {0, 1}, {2, 3}}, setOf(0, 1, 4)}, {4, [][2]int{{0, 1}, {2, 3}, {1, 0}, {3, 2}}, setOf(0, 1)}, {4, [][2]int{{0, 1}, {2, 3}, {1, 0}, {3, 2}, {1, 2}}, setOf(0, 1, 4)}, {4, [][2]int{{0, 1}, {1, 3}, {3, 0}, {1, 0}, {3, 1}}, setOf(0, 1)}, {5, [][2]int{{4, 0}, {0, 4}, {1, 4}, {4, 1}, {0, 1}, {2, 3}, {3, 2}}, setOf(0, 2, 5)},
		{5, [][2]int{{0, 1}, {1, 2}, {0, 2}, {2, 3}, {0, 3}, {1, 3}, {3, 4}, {0, 4}}, setOf(0, 1, 3, 6)}, {5, [][2]int{{0, 1}, {1, 2}, {2, 3}, {3, 4}}, 15}, {5, [][2]int{{0, 1}, {0, 1}, {0, 1}, {0, 1}, {0, 1}, {0, 1}, {0, 1}, {0, 1}}, 1}, {5, [][2]int{{0, 1}, {0, 1}, {0, 1}, {0, 1}, {4, 1}, {3, 4}, {2, 3}, {4, 0}}, setOf(0, 4, 5, 6)},
	} {
		for _, diff := range []api.Span{span(-80, 80), span(1, 2), span(80, 80)} {
			p := still(0, slices.Repeat(spans(-1, 1), x.blocks))
			for _, of := range x.pairs {
				p.Pair.Reads = append(p.Pair.Reads, api.PairRead{A: of[0], B: of[1], Diff: diff})
				p.Prices = append(p.Prices, 7)
			}
			same(t, "the table", x.reads, modelOf(p).closed())
			same(t, "Closed", two(plan.Closed(p)), number(x.reads))
		}
	}
}
