package plan_test

import (
	"math"
	"reflect"
	"slices"
	"testing"

	"blockworks/api"
	"blockworks/plan"
)

// call is one call of a function of the package, as the list of all its results.
type call struct {
	name string
	do   func(p api.Plan) []any
}

// calls returns the calls of all functions, with a set of readings and a number of them for those that take one.
func calls(reads, many int) []call {
	list := func(results ...any) []any { return results }
	return []call{
		{"Blocks", func(p api.Plan) []any { b, w, e := plan.Blocks(p, reads); return list(b, w, e) }},
		{"Fewest", func(p api.Plan) []any { r, e := plan.Fewest(p); return list(r, e) }},
		{"Cheapest", func(p api.Plan) []any { r, n, e := plan.Cheapest(p); return list(r, n, e) }},
		{"Needed", func(p api.Plan) []any { r, e := plan.Needed(p); return list(r, e) }},
		{"Best", func(p api.Plan) []any { r, w, e := plan.Best(p, many); return list(r, w, e) }},
		{"Order", func(p api.Plan) []any { r, e := plan.Order(p); return list(r, e) }},
		{"Closed", func(p api.Plan) []any { r, e := plan.Closed(p); return list(r, e) }},
	}
}

// wantError fails unless a call returns the error, and zero values beside it (R2).
func wantError(t *testing.T, c call, p api.Plan, e api.Errno) {
	t.Helper()
	results := c.do(p)
	last := len(results) - 1
	for _, r := range results[:last] {
		if v := reflect.ValueOf(r); !v.IsZero() && !(v.Kind() == reflect.Slice && v.Len() == 0) {
			t.Errorf("%s of %v: result %v beside an error", c.name, p, r)
		}
	}
	if results[last] != e {
		t.Errorf("%s of %v: error %v, want %v", c.name, p, results[last], e)
	}
}

// want fails unless the functions of some names return the error.
func want(t *testing.T, names []string, list []call, p api.Plan, e api.Errno) {
	t.Helper()
	for _, c := range list {
		if slices.Contains(names, c.name) {
			wantError(t, c, p, e)
		}
	}
}

// clone returns a plan that shares no memory with another one.
func clone(p api.Plan) api.Plan {
	p.Pair.Blocks, p.Pair.Reads, p.Prices = slices.Clone(p.Pair.Blocks), slices.Clone(p.Pair.Reads), slices.Clone(p.Prices)
	return p
}

// numbers are numbers that are near to a span, and far from it.
func numbers(lo, hi int) []int {
	return []int{math.MinInt, lo - 2, lo - 1, hi + 1, hi + 2, math.MaxInt}
}

// changes are ways to change a plan that begins as P or N; each one alone is enough to make it invalid.
func changes() []func(p *api.Plan) {
	list := []func(p *api.Plan){
		func(p *api.Plan) { p.Prices = nil },
		func(p *api.Plan) { p.Prices = []int{} },
		func(p *api.Plan) { p.Prices = p.Prices[1:] },
		func(p *api.Plan) { p.Prices = append(p.Prices, 0) },
		func(p *api.Plan) { p.Prices = make([]int, 100000) },
		func(p *api.Plan) { p.Pair.Reads = p.Pair.Reads[:2] },
		func(p *api.Plan) { p.Pair.Reads = nil },
		func(p *api.Plan) { p.Pair.Reads = append(p.Pair.Reads, read(0, 1, 0, 0, 0)) },
	}
	for _, n := range numbers(0, api.PlanWide) {
		list = append(list, func(p *api.Plan) { p.Wide = n })
	}
	for _, n := range numbers(0, api.PlanPrice) {
		for at := range 3 {
			list = append(list, func(p *api.Plan) { p.Prices[at] = n })
		}
	}
	return slices.Concat(list, changesOfPair())
}

// changesOfPair are ways to make a pair invalid, while the rest of the plan is valid.
func changesOfPair() []func(p *api.Plan) {
	list := []func(p *api.Plan){
		func(p *api.Plan) { p.Pair.Blocks = nil },
		func(p *api.Plan) { p.Pair.Blocks = p.Pair.Blocks[:2] },
		func(p *api.Plan) { p.Pair.Blocks = make([]api.Span, 6) },
		func(p *api.Plan) { p.Pair.Blocks = make([]api.Span, 100000) },
		func(p *api.Plan) { *p = still(2, nil) },
		func(p *api.Plan) { *p = still(2, fixed(2), slices.Repeat([]api.PairRead{read(1, 0, 0, 1, 1)}, 9)...) },
		func(p *api.Plan) { *p = still(2, fixed(2), slices.Repeat([]api.PairRead{read(1, 0, 0, 1, 1)}, 70)...) },
		func(p *api.Plan) { p.Pair.Reads[0].B = p.Pair.Reads[0].A },
	}
	for _, s := range []api.Span{span(1, 0), span(-21, 0), span(0, 21), span(math.MinInt, math.MaxInt), span(math.MaxInt, math.MinInt)} {
		list = append(list, func(p *api.Plan) { p.Pair.Blocks[1] = s }, func(p *api.Plan) { p.Pair.Zero = s }, func(p *api.Plan) { p.Pair.Rate = s })
	}
	for _, s := range []api.Span{span(0, 5), span(4, 6), span(-6, -4), span(-3, 2)} {
		list = append(list, func(p *api.Plan) { p.Pair.Rate = s })
	}
	for _, s := range []api.Span{span(0, 5), span(8, 11), span(-11, -8), span(-3, 2)} {
		list = append(list, func(p *api.Plan) { p.Pair.Zero = s })
	}
	for _, s := range []api.Span{span(4, 3), span(0, 81), span(-81, 0), span(math.MinInt, math.MaxInt), span(math.MaxInt, math.MinInt)} {
		list = append(list, func(p *api.Plan) { p.Pair.Reads[2].Diff = s })
	}
	for _, n := range numbers(0, 2) {
		list = append(list, func(p *api.Plan) { p.Pair.Reads[1].A = n }, func(p *api.Plan) { p.Pair.Reads[2].B = n })
	}
	for _, n := range numbers(0, api.PairMinutes) {
		list = append(list, func(p *api.Plan) { p.Pair.Reads[1].Minute = n })
	}
	return list
}

// TestInvalid: the section Errors, R1, R2 and R8. A plan that is not valid comes before all other errors.
func TestInvalid(t *testing.T) {
	for _, change := range changes() {
		for _, p := range []api.Plan{planP(), planR(), planN()} {
			change(&p)
			for _, c := range slices.Concat(calls(0, 0), calls(-1, -1), calls(16, 9), calls(math.MinInt, math.MaxInt), calls(math.MaxInt, math.MinInt)) {
				wantError(t, c, p, api.ErrArg)
			}
		}
	}
}

// TestRange: the section Errors. What is out of range comes before a clash, and before there is none. There may be fewer readings than are allowed.
func TestRange(t *testing.T) {
	eight := still(0, fixed(2), slices.Repeat([]api.PairRead{read(1, 0, 0, 1, 2)}, 8)...)
	for _, p := range []api.Plan{planP(), planR(), planN(), still(0, fixed(2)), eight} {
		all := full(len(p.Pair.Reads))
		for _, reads := range append(numbers(0, all), 2*all+1, all+8, 1<<8, 1<<40) {
			want(t, []string{"Blocks"}, calls(reads, 0), p, api.ErrRange)
		}
		for _, many := range numbers(0, api.PairReads) {
			want(t, []string{"Best"}, calls(0, many), p, api.ErrRange)
		}
	}
}

// TestClash: the section Errors. Without a truth all functions but Closed return ErrClash, whatever is asked for, and also before there is none.
func TestClash(t *testing.T) {
	for _, p := range []api.Plan{planN(), within(0, planN()), within(40, planN()), still(40, spans(0, 0, 1, 1), read(0, 1, 0, 0, 0)), still(0, fixed(2), read(1, 0, 0, 1, 2), read(1, 0, 0, 3, 4)), still(3, spans(-20, 20, -20, 20, -20, 20), read(0, 1, 0, 1, 9), read(1, 2, 0, 1, 9), read(2, 0, 0, 1, 9))} {
		for reads := range full(len(p.Pair.Reads)) + 1 {
			for many := range api.PairReads + 1 {
				want(t, []string{"Blocks", "Fewest", "Cheapest", "Needed", "Best", "Order"}, calls(reads, many), p, api.ErrClash)
			}
		}
		same(t, "Closed", two(plan.Closed(p)), number(modelOf(p).closed()))
	}
}

// TestNone: the section Errors. If not even all readings are enough, there still are blocks that are known well enough, readings that are best, and those by which blocks hang together.
func TestNone(t *testing.T) {
	p := planR()
	want(t, []string{"Fewest", "Cheapest", "Needed", "Order"}, calls(0, 0), p, api.ErrNone)
	same(t, "Blocks", three(plan.Blocks(p, 7)), both(setOf(0, 2), 2))
	same(t, "Best", three(plan.Best(p, 8)), both(3, 2))
	same(t, "Closed", two(plan.Closed(p)), number(3))
	none := still(39, fixed(2))
	want(t, []string{"Fewest", "Cheapest", "Needed", "Order"}, calls(0, 0), none, api.ErrNone)
	same(t, "Blocks", three(plan.Blocks(none, 0)), both(1, 40))
	same(t, "Best", three(plan.Best(none, 8)), both(0, 40))
	same(t, "Closed", two(plan.Closed(none)), number(0))
}

// TestLimits: R7. What just keeps to each limit is valid.
func TestLimits(t *testing.T) {
	blocks := spans(-20, 20, -20, -20, 20, 20, -20, 20, 0, 0)
	most := slices.Repeat([]api.PairRead{read(0, 4, 60, -80, 80), read(4, 3, 0, 20, 20)}, 4)
	for _, reads := range [][]api.PairRead{nil, most[:1], most} {
		for _, zero := range []api.Span{span(-10, -6), span(6, 10), span(-10, -10)} {
			for _, rate := range []api.Span{span(-5, -1), span(1, 5), span(5, 5)} {
				for _, wide := range []int{0, api.PlanWide} {
					p := still(wide, blocks, reads...)
					p.Pair.Zero, p.Pair.Rate = zero, rate
					for i := range p.Prices {
						p.Prices[i] = i % 2 * api.PlanPrice
					}
					compareAll(t, p)
				}
			}
		}
	}
	same(t, "the limits", []int{api.PlanWide, api.PlanPrice, api.PairReads, api.PairBlocks}, []int{40, 20, 8, 5})
}

// compareAll fails unless all is told of a plan as the model tells it.
func compareAll(t *testing.T, p api.Plan) {
	t.Helper()
	m := modelOf(p)
	same(t, "Closed", two(plan.Closed(p)), number(m.closed()))
	if !m.truthful {
		want(t, []string{"Blocks", "Fewest", "Cheapest", "Needed", "Best", "Order"}, calls(0, 0), p, api.ErrClash)
		return
	}
	for reads := range m.all() + 1 {
		same(t, "Blocks", three(plan.Blocks(p, reads)), both(m.blocks(reads), m.widest(reads)))
	}
	for many := range api.PairReads + 1 {
		same(t, "Best", three(plan.Best(p, many)), both(m.best(many), m.widest(m.best(many))))
	}
	if !m.enough(m.all()) {
		want(t, []string{"Fewest", "Cheapest", "Needed", "Order"}, calls(0, 0), p, api.ErrNone)
		return
	}
	same(t, "Fewest", two(plan.Fewest(p)), number(m.fewest()))
	same(t, "Cheapest", three(plan.Cheapest(p)), both(m.cheapest(), m.price(m.cheapest())))
	same(t, "Needed", two(plan.Needed(p)), number(m.needed()))
	same(t, "Order", row(plan.Order(p)), these(m.order()...))
}

// TestNilAndEmpty: R3. No readings and no prices are the same, however they are written.
func TestNilAndEmpty(t *testing.T) {
	for _, wide := range []int{0, 10} {
		a, b := still(wide, spans(0, 10, 3, 3)), still(wide, spans(0, 10, 3, 3))
		a.Pair.Reads, a.Prices = nil, nil
		b.Pair.Reads, b.Prices = []api.PairRead{}, []int{}
		for _, c := range calls(0, 3) {
			if c.name != "Order" {
				same(t, c.name, c.do(a), c.do(b))
			}
		}
		same(t, "Order", row(plan.Order(a)), row(plan.Order(b)))
	}
	a, b := planP(), planP()
	a.Pair.Blocks, b.Pair.Blocks = nil, []api.Span{}
	for _, c := range calls(0, 3) {
		same(t, c.name, c.do(a), c.do(b))
	}
}

// TestMemory: P8.8 and R4. No argument is changed, also behind its end, and no result shares memory with another one.
func TestMemory(t *testing.T) {
	long := chain(6)
	long.Pair.Reads = append(long.Pair.Reads, read(0, 1, 5, -9, 9), read(1, 0, 0, 4, 4))
	long.Pair.Blocks = append(long.Pair.Blocks, span(1, 2))
	long.Prices = append(long.Prices, 3, 4)
	before := clone(long)
	for reads := range len(long.Prices) + 1 {
		p := long
		p.Pair.Reads, p.Prices, p.Pair.Blocks = long.Pair.Reads[:reads], long.Prices[:reads], long.Pair.Blocks[:4]
		for _, c := range calls(full(reads), 2) {
			c.do(p)
		}
	}
	same(t, "the plan", long, before)
	p := chain(6)
	first, _ := plan.Order(p)
	second, _ := plan.Order(p)
	clear(first[:cap(first)])
	same(t, "the second result", second, []int{0, 1, 2})
	third, e := plan.Order(p)
	same(t, "the third result", row(third, e), these(0, 1, 2))
}
