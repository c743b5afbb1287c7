package pair_test

import (
	"math"
	"reflect"
	"slices"
	"testing"

	"blockworks/api"
	"blockworks/pair"
)

// readA to readD are the readings of the chapter's examples, pairP and pairN its pairs.
func readA() api.PairRead { return read(1, 0, 0, 3, 4) }
func readB() api.PairRead { return read(2, 0, 10, 3, 3) }
func readC() api.PairRead { return read(1, 2, 20, 5, 7) }
func readD() api.PairRead { return read(2, 1, 0, 5, 5) }

// some returns the pair P with other readings.
func some(reads ...api.PairRead) api.Pair {
	return pairOf(spans(0, 0, -5, 5, -5, 5), span(0, 1), span(2, 2), reads...)
}

func pairP() api.Pair { return some(readA(), readB(), readC()) }
func pairN() api.Pair { return some(readA(), readB(), readC(), readD()) }

func pairOf(blocks []api.Span, zero, rate api.Span, reads ...api.PairRead) api.Pair {
	return api.Pair{Blocks: blocks, Zero: zero, Rate: rate, Reads: reads}
}

// still returns a pair whose comparator always shows 0 of equal blocks.
func still(blocks []api.Span, reads ...api.PairRead) api.Pair {
	return pairOf(blocks, span(0, 0), span(0, 0), reads...)
}

// spans returns spans of which the ends stand one after the other.
func spans(ends ...int) []api.Span {
	var list []api.Span
	for e := range slices.Chunk(ends, 2) {
		list = append(list, span(e[0], e[1]))
	}
	return list
}

// same fails unless what a call returned is what is wanted.
func same(t *testing.T, call string, got, want any) {
	t.Helper()
	if !reflect.DeepEqual(got, want) {
		t.Errorf("%s: got %v, want %v", call, got, want)
	}
}

// two, three and four put the results of a call into one value.
func two[A any](a A, e api.Errno) [2]any           { return [2]any{a, e} }
func three[A, B any](a A, b B, e api.Errno) [3]any { return [3]any{a, b, e} }
func four(a, b, c int, e api.Errno) [4]any         { return [4]any{a, b, c, e} }

func TestExamples(t *testing.T) {
	p, n := pairP(), pairN()
	same(t, "Known P 0", two(pair.Known(p, 0)), two(span(0, 0), api.OK))
	same(t, "Known P 1", two(pair.Known(p, 1)), two(span(2, 4), api.OK))
	same(t, "Known P 2", two(pair.Known(p, 2)), two(span(0, 1), api.OK))
	same(t, "Differ P 1 2", two(pair.Differ(p, 1, 2)), two(span(2, 3), api.OK))
	same(t, "Differ P 0 1", two(pair.Differ(p, 0, 1)), two(span(-4, -2), api.OK))
	same(t, "Differ P 1 1", two(pair.Differ(p, 1, 1)), two(span(0, 0), api.OK))
	same(t, "Shows P 0", two(pair.Shows(p, 0)), two(span(0, 1), api.OK))
	same(t, "Shows P 25", two(pair.Shows(p, 25)), two(span(5, 6), api.OK))
	same(t, "Shows P 59", two(pair.Shows(p, 59)), two(span(11, 12), api.OK))
	same(t, "Longest P", three(pair.Longest(p)), three(2, 2, api.OK))
	same(t, "Least P", four(pair.Least(p)), four(0, 1, 2, api.OK))
	same(t, "Groups P", two(pair.Groups(p)), two(1, api.OK))
	same(t, "Groups P without B and C", two(pair.Groups(some(readA()))), two(2, api.OK))
	same(t, "Wrong N", three(pair.Wrong(n)), three(1, 8, api.OK))
	same(t, "Wrong P", three(pair.Wrong(p)), three(0, 0, api.OK))
	same(t, "Clash N", two(pair.Clash(n)), two(9, api.OK))
	same(t, "Clash P", two(pair.Clash(p)), two(0, api.ErrNone))
	same(t, "Known N 0", two(pair.Known(n, 0)), two(api.Span{}, api.ErrClash))
}

// TestKnown: P3.1. One comparator has made all readings, and blocks bear on one another through any number of them.
func TestKnown(t *testing.T) {
	for _, x := range []struct {
		p     api.Pair
		known []api.Span
	}{
		{still(spans(-20, 20)), spans(-20, 20)},
		{still(spans(0, 0, -20, 20), read(1, 0, 0, 5, 7)), spans(0, 0, 5, 7)},
		{still(spans(0, 0, -20, 20), read(0, 1, 0, 5, 7)), spans(0, 0, -7, -5)},
		{still(spans(-20, 20, -20, 20), read(0, 1, 0, 2, 3)), spans(-18, 20, -20, 18)},
		{still(spans(0, 0, -20, 20, -20, 20), read(1, 0, 0, 5, 5), read(2, 1, 0, -3, -2)), spans(0, 0, 5, 5, 2, 3)},
		{still(spans(-20, 20, -20, 20, -20, 20, -20, 20, 9, 9), read(0, 1, 0, 1, 2), read(2, 1, 0, 3, 3), read(2, 3, 0, 0, 0), read(4, 3, 0, 1, 1)),
			spans(6, 7, 5, 5, 8, 8, 8, 8, 9, 9)},
		{still(spans(-20, -20, 20, 20), read(0, 1, 0, -80, 80)), spans(-20, -20, 20, 20)},
		// It shows 0 to 4 of equal blocks in both readings, the same each time.
		{pairOf(spans(0, 0, -20, 20, -20, 20), span(0, 4), span(0, 0), read(1, 0, 0, 0, 0), read(2, 0, 0, 4, 4)), spans(0, 0, -4, 0, 0, 4)},
		{pairOf(spans(0, 0, -20, 20, 1, 1), span(0, 4), span(0, 0), read(1, 0, 0, 0, 0), read(2, 0, 0, 4, 4)), spans(0, 0, -3, -3, 1, 1)},
		// Below 0 it is rounded down, too.
		{pairOf(spans(0, 0, -20, 20, -20, 20), span(0, 0), span(-1, -1), read(1, 0, 1, 0, 0), read(2, 0, 11, 0, 0)), spans(0, 0, 1, 1, 2, 2)},
		// The block 1 is 6 or 0 longer, and nothing in between.
		{pairOf(spans(0, 0, -20, 20), span(0, 0), span(0, 1), read(1, 0, 60, 6, 6)), spans(0, 0, 0, 6)},
	} {
		for i, s := range x.known {
			same(t, "Known", two(pair.Known(x.p, i)), two(s, api.OK))
		}
	}
}

// TestDiffer: P3.2. Two blocks can be known well of one another, though neither is known well.
func TestDiffer(t *testing.T) {
	for _, x := range []struct {
		p      api.Pair
		a, b   int
		differ api.Span
	}{
		{still(spans(-20, 20)), 0, 0, span(0, 0)},
		{still(spans(-20, 20, -20, 20)), 0, 1, span(-40, 40)},
		{still(spans(-3, 5, -7, 11)), 0, 1, span(-14, 12)},
		{still(spans(-3, 5, -7, 11)), 1, 0, span(-12, 14)},
		{still(spans(-20, 20, -20, 20), read(0, 1, 0, 2, 3)), 0, 1, span(2, 3)},
		{still(spans(-20, 20, -20, 20), read(0, 1, 0, 2, 3)), 1, 0, span(-3, -2)},
		{still(spans(-20, 20, -20, 20, -20, 20), read(0, 1, 0, 2, 3), read(1, 2, 0, 4, 6)), 0, 2, span(6, 9)},
		{still(spans(-20, 20, -20, 20, -20, 20), read(0, 1, 0, 2, 3), read(1, 2, 0, 4, 6)), 2, 0, span(-9, -6)},
		{pairOf(spans(-20, 20, -20, 20), span(-2, 1), span(0, 0), read(0, 1, 0, 0, 0)), 0, 1, span(-1, 2)},
		{pairOf(spans(0, 0, -20, 20, -20, 20), span(0, 4), span(0, 0), read(1, 0, 0, 0, 0), read(2, 0, 0, 4, 4)), 2, 1, span(4, 4)},
		{pairOf(spans(0, 0, -20, 20, -20, 20), span(0, 4), span(0, 0), read(1, 0, 0, 0, 0), read(0, 2, 0, 4, 4)), 2, 1, span(-4, 4)},
	} {
		same(t, "Differ", two(pair.Differ(x.p, x.a, x.b)), two(x.differ, api.OK))
	}
}

// TestShows: P3.3. It is rounded down, also below 0, and what was read of blocks that are known tells of the comparator.
func TestShows(t *testing.T) {
	blocks := spans(0, 0, 0, 0)
	for _, x := range []struct {
		p      api.Pair
		minute int
		shows  api.Span
	}{
		{pairOf(blocks, span(-10, -6), span(-5, -1)), 0, span(-10, -6)},
		{pairOf(blocks, span(-10, -6), span(-5, -1)), 1, span(-11, -7)},
		{pairOf(blocks, span(-10, -6), span(-5, -1)), 60, span(-40, -12)},
		{pairOf(blocks, span(6, 10), span(1, 5)), 60, span(12, 40)},
		{pairOf(blocks, span(0, 0), span(5, 5)), 59, span(29, 29)},
		{pairOf(blocks, span(0, 0), span(-5, -5)), 59, span(-30, -30)},
		{pairOf(blocks, span(0, 0), span(3, 3)), 3, span(0, 0)},
		{pairOf(blocks, span(0, 0), span(3, 3)), 4, span(1, 1)},
		{pairOf(blocks, span(0, 0), span(-3, -3)), 3, span(-1, -1)},
		{pairOf(blocks, span(0, 0), span(-3, -3)), 4, span(-2, -2)},
		{pairOf(blocks, span(0, 0), span(-1, -1)), 10, span(-1, -1)},
		// Only what is added is rounded: the zero and what is added are not rounded together.
		{pairOf(blocks, span(-1, -1), span(1, 1)), 5, span(-1, -1)},
		{pairOf(blocks, span(0, 4), span(1, 5), read(0, 1, 60, 30, 30)), 0, span(0, 0)},
		{pairOf(blocks, span(0, 4), span(1, 5), read(0, 1, 60, 30, 30)), 10, span(5, 5)},
		{pairOf(blocks, span(0, 1), span(0, 1), read(1, 0, 0, 0, 0)), 20, span(0, 2)},
		// The zero is 0 and the rate 1, or the other way round.
		{pairOf(blocks, span(0, 1), span(0, 1), read(1, 0, 10, 1, 1)), 10, span(1, 1)},
		{pairOf(blocks, span(0, 1), span(0, 1), read(1, 0, 10, 1, 1)), 60, span(1, 6)},
	} {
		same(t, "Shows", two(pair.Shows(x.p, x.minute)), two(x.shows, api.OK))
	}
}

// TestLongest: P3.4. Blocks that are as long as one another are longest together.
func TestLongest(t *testing.T) {
	all := spans(-20, 20, -20, 20, -20, 20)
	for _, x := range []struct {
		p               api.Pair
		surely, perhaps int
	}{
		{still(spans(-20, -20)), 1, 1}, {still(spans(-20, 20)), 1, 1},
		{still(spans(0, 0, 0, 0)), 3, 3}, {still(spans(-20, -20, -20, -20)), 3, 3}, {still(make([]api.Span, 5)), 31, 31},
		{still(spans(0, 1, 0, 1)), 0, 3}, {still(spans(0, 1, 1, 2)), 2, 3}, {still(spans(0, 0, 1, 1)), 2, 2}, {still(spans(1, 2, 0, 1)), 1, 3},
		{still(spans(0, 0, 0, 0, -1, 0)), 3, 7}, {still(spans(-20, -19, -20, -19, -20, -20)), 0, 7}, {still(spans(-1, 1, 2, 3, 3, 4, -20, 20)), 0, 14},
		{still(all), 0, 7}, {still(all, read(0, 1, 0, 0, 0)), 0, 7}, {still(all, read(0, 1, 0, 1, 1)), 0, 5}, {still(all, read(0, 1, 0, 1, 1), read(0, 2, 0, 0, 3)), 1, 5},
		{still(all, read(0, 1, 0, 1, 1), read(2, 0, 0, 1, 1)), 4, 4},
		// If it shows 0 of equal blocks the block 1 is longest, and the block 2 if it shows 1; the block 0 never is.
		{pairOf(spans(0, 0, -5, 5, -5, 5), span(0, 1), span(0, 0), read(1, 0, 0, 1, 1), read(0, 2, 0, 0, 0)), 0, 6},
	} {
		same(t, "Longest", three(pair.Longest(x.p)), three(x.surely, x.perhaps, api.OK))
	}
}

// TestLeast: P3.5. Of several the first a is told, then the first b; one block alone has no other one.
func TestLeast(t *testing.T) {
	for _, x := range []struct {
		p          api.Pair
		a, b, wide int
	}{
		{still(spans(-20, 20, -20, 20)), 0, 1, 80}, {still(make([]api.Span, 5)), 0, 1, 0}, {still(spans(0, 1, 0, 1, 0, 1)), 0, 1, 2},
		{still(spans(0, 0, 0, 1, 0, 1)), 1, 2, 2}, {still(spans(0, 1, 0, 0, 0, 1)), 0, 2, 2}, {still(spans(0, 0, 0, 0, 0, 1, 0, 0, 0, 1)), 2, 4, 2},
		{still(spans(0, 0, 0, 0, 0, 0, 0, 0, 0, 1)), 0, 4, 1}, {still(spans(0, 0, 0, 0, 0, 1, 0, 0)), 0, 2, 1},
		{still(spans(-20, 20, -20, 20, 0, 0), read(0, 1, 0, 0, 0)), 0, 2, 40},
		{still(spans(-20, 20, -20, 20, 0, 0), read(0, 1, 0, 0, 0), read(2, 0, 0, 7, 9)), 0, 2, 2},
		{still(spans(-20, 20, -20, 20, 0, 0), read(0, 1, 0, 0, 1), read(2, 0, 0, 7, 9)), 1, 2, 3},
	} {
		same(t, "Least", four(pair.Least(x.p)), four(x.a, x.b, x.wide, api.OK))
	}
	for _, p := range []api.Pair{still(spans(0, 0)), still(spans(-20, 20)), pairOf(spans(0, 1), span(-10, -6), span(1, 5))} {
		same(t, "Least", four(pair.Least(p)), four(0, 0, 0, api.ErrNone))
	}
}

// TestGroups: P3.6. Whether readings are right is not looked at.
func TestGroups(t *testing.T) {
	five := make([]api.Span, 5)
	at := func(a, b int) api.PairRead { return read(a, b, 0, 80, 80) }
	for _, x := range []struct {
		p    api.Pair
		many int
	}{
		{still(spans(0, 0)), 1}, {still(spans(0, 0, 0, 0)), 2}, {still(five), 5},
		{still(five, at(3, 1)), 4}, {still(five, at(3, 1), at(1, 3), at(3, 1)), 4}, {still(five, at(0, 4), at(2, 3)), 3},
		{still(five, at(0, 4), at(2, 3), at(3, 4)), 2}, {still(five, at(0, 1), at(1, 2), at(2, 0)), 3}, {still(five, at(3, 4), at(2, 3), at(1, 2), at(0, 1)), 1},
		{still(five, at(4, 0), at(4, 1), at(4, 2), at(4, 3)), 1}, {still(five, at(0, 1), at(2, 3), at(0, 2), at(1, 3), at(3, 0), at(2, 1)), 2},
		{pairN(), 1}, {some(), 3}, {some(readD()), 2},
	} {
		same(t, "Groups", two(pair.Groups(x.p)), two(x.many, api.OK))
	}
}

// at returns a reading that is right if the block 1 is n longer than the block 0.
func at(n int) api.PairRead { return read(1, 0, 0, n, n) }

func ats(numbers ...int) api.Pair {
	p := still(spans(0, 0, -20, 20))
	for _, n := range numbers {
		p.Reads = append(p.Reads, at(n))
	}
	return p
}

// triangle returns three readings of which any two can be right.
func triangle() api.Pair {
	return still(spans(-20, 20, -20, 20, -20, 20), read(0, 1, 0, 1, 1), read(1, 2, 0, 1, 1), read(2, 0, 0, 1, 1))
}

// drifting returns two equal blocks, and a comparator of which neither the zero nor the rate is known.
func drifting(reads ...api.PairRead) api.Pair {
	return pairOf(spans(0, 0, 0, 0), span(0, 4), span(0, 4), reads...)
}

// TestWrong: P3.7. Fewer readings come before a lesser number, and a lesser number before a greater one.
func TestWrong(t *testing.T) {
	for _, x := range []struct {
		p           api.Pair
		many, reads int
	}{
		{still(spans(3, 4)), 0, 0}, {ats(), 0, 0}, {ats(3, 3, 3), 0, 0}, {ats(80), 1, 1}, {ats(3, -21), 1, 2},
		{ats(3, 4), 1, 1}, {ats(3, 4, 4), 1, 1}, {ats(4, 3, 4), 1, 2}, {ats(4, 4, 3), 1, 4}, {ats(3, 4, 3, 4), 2, 5}, {ats(3, 3, 4, 4), 2, 3}, {ats(3, 4, 4, 3), 2, 6},
		{ats(1, 2, 3, 4, 5, 6, 7, 8), 7, 127}, {ats(80, 80, 80, 80, 80, 80, 80, 80), 8, 255}, {ats(1, 1, 1, 1, 1, 1, 1, 2), 1, 128}, {ats(30, 1, 30, 2, 2, 30), 4, 39},
		{triangle(), 1, 1},
		{drifting(read(0, 1, 10, 1, 1), read(0, 1, 20, 1, 1)), 0, 0},
		{drifting(read(0, 1, 0, 1, 1), read(0, 1, 10, 2, 2), read(0, 1, 20, 2, 2)), 1, 1},
		{drifting(read(0, 1, 0, 0, 0), read(0, 1, 20, 2, 2), read(1, 0, 40, 3, 3)), 1, 4},
	} {
		same(t, "Wrong", three(pair.Wrong(x.p)), three(x.many, x.reads, api.OK))
	}
}

// TestClash: P3.8. Fewer readings come before a lesser number, and a lesser number before a greater one.
func TestClash(t *testing.T) {
	for _, x := range []struct {
		p     api.Pair
		reads int
	}{
		{ats(80), 1}, {ats(3, 80), 2}, {ats(3, 4, 80), 4}, {ats(3, 80, 80), 2}, {ats(3, 4), 3}, {ats(3, 3, 4), 5}, {ats(3, 4, 4), 3}, {ats(3, 3, 3, 4, 5), 9},
		{ats(1, 1, 1, 1, 1, 1, 1, 2), 129}, {ats(1, 1, 1, 1, 1, 1, 1, -80), 128},
		{triangle(), 7},
		{drifting(read(0, 1, 0, 0, 0), read(0, 1, 0, 1, 1)), 3},
		{drifting(read(0, 1, 0, 1, 1), read(0, 1, 10, 2, 2), read(0, 1, 20, 2, 2)), 5},
		// Any two of these leave a zero and a rate; all three do not.
		{drifting(read(0, 1, 0, 0, 0), read(0, 1, 10, 3, 3), read(0, 1, 20, 4, 4)), 7},
		{drifting(read(0, 1, 0, 0, 4), read(0, 1, 0, 1, 1), read(0, 1, 60, 25, 80), read(0, 1, 10, 5, 5), read(0, 1, 20, 8, 8)), 18},
	} {
		same(t, "Clash", two(pair.Clash(x.p)), two(x.reads, api.OK))
	}
	for _, p := range []api.Pair{still(spans(3, 4)), ats(), ats(3, 3), ats(-20, -20, -20, -20, -20, -20, -20, -20)} {
		same(t, "Clash", two(pair.Clash(p)), two(0, api.ErrNone))
	}
}

// with is what functions take beside a pair.
type with struct{ block, a, b, minute int }

// call is one call of a function of the package, as the list of all its results.
type call struct {
	name string
	do   func(p api.Pair) []any
}

func calls(x with) []call {
	list := func(results ...any) []any { return results }
	return []call{
		{"Known", func(p api.Pair) []any { s, e := pair.Known(p, x.block); return list(s, e) }},
		{"Differ", func(p api.Pair) []any { s, e := pair.Differ(p, x.a, x.b); return list(s, e) }},
		{"Shows", func(p api.Pair) []any { s, e := pair.Shows(p, x.minute); return list(s, e) }},
		{"Longest", func(p api.Pair) []any { s, q, e := pair.Longest(p); return list(s, q, e) }},
		{"Least", func(p api.Pair) []any { a, b, w, e := pair.Least(p); return list(a, b, w, e) }},
		{"Groups", func(p api.Pair) []any { n, e := pair.Groups(p); return list(n, e) }},
		{"Wrong", func(p api.Pair) []any { n, s, e := pair.Wrong(p); return list(n, s, e) }},
		{"Clash", func(p api.Pair) []any { s, e := pair.Clash(p); return list(s, e) }},
	}
}

func errorOf(results []any) any { return results[len(results)-1] }

// wantError fails unless a call returns the error, and zero values beside it (R2).
func wantError(t *testing.T, c call, p api.Pair, e api.Errno) {
	t.Helper()
	results := c.do(p)
	for _, r := range results[:len(results)-1] {
		if !reflect.ValueOf(r).IsZero() {
			t.Errorf("%s of %v: result %v beside an error", c.name, p, r)
		}
	}
	if errorOf(results) != e {
		t.Errorf("%s of %v: error %v, want %v", c.name, p, errorOf(results), e)
	}
}

// strange are spans that are never valid where numbers are small, whichever of them they have to keep to.
func strange(more ...api.Span) []api.Span {
	return append(more,
		span(1, 0), span(0, -1), span(math.MinInt, math.MaxInt), span(math.MaxInt, math.MinInt), span(math.MinInt, 0), span(0, math.MaxInt),
		span(math.MinInt, math.MinInt), span(math.MaxInt, math.MaxInt), span(0, math.MinInt), span(math.MaxInt, 0),
	)
}

// changes are ways to change the pair N; each one alone is enough to make it invalid.
func changes() []func(p *api.Pair) {
	list := []func(p *api.Pair){
		func(p *api.Pair) { p.Blocks = nil },
		func(p *api.Pair) { p.Blocks = p.Blocks[:2] },
		func(p *api.Pair) { p.Blocks = make([]api.Span, 6) },
		func(p *api.Pair) { p.Blocks = make([]api.Span, 100000) },
		func(p *api.Pair) { p.Reads = slices.Concat(p.Reads, p.Reads, p.Reads[:1]) },
		func(p *api.Pair) { p.Reads = make([]api.PairRead, 9) },
		func(p *api.Pair) { p.Reads = make([]api.PairRead, 100000) },
	}
	for _, s := range strange(span(-11, -10), span(10, 11), span(-11, -11), span(11, 11), span(0, 5), span(-10, -5), span(-10, 10)) {
		list = append(list, func(p *api.Pair) { p.Zero = s })
	}
	for _, s := range strange(span(-6, -5), span(5, 6), span(-6, -6), span(6, 6), span(0, 5), span(-5, 0), span(-5, 5)) {
		list = append(list, func(p *api.Pair) { p.Rate = s })
	}
	for i := range 3 {
		for _, s := range strange(span(-21, 0), span(0, 21), span(-21, -21), span(21, 21)) {
			list = append(list, func(p *api.Pair) { p.Blocks[i] = s })
		}
	}
	for i := range 4 {
		list = append(list, readChanges(i)...)
	}
	return list
}

func readChanges(i int) []func(p *api.Pair) {
	list := []func(p *api.Pair){
		func(p *api.Pair) { p.Reads[i].A = p.Reads[i].B },
		func(p *api.Pair) { p.Reads[i].B = p.Reads[i].A },
	}
	for _, block := range []int{math.MinInt, -1, 3, 4, 5, math.MaxInt} {
		list = append(list, func(p *api.Pair) { p.Reads[i].A = block }, func(p *api.Pair) { p.Reads[i].B = block })
	}
	for _, minute := range []int{math.MinInt, -1, 61, math.MaxInt} {
		list = append(list, func(p *api.Pair) { p.Reads[i].Minute = minute })
	}
	for _, s := range strange(span(-81, 0), span(0, 81), span(-81, -81), span(81, 81)) {
		list = append(list, func(p *api.Pair) { p.Reads[i].Diff = s })
	}
	return list
}

// TestInvalid: the section Errors, R1, R2 and P1. A pair that is not valid comes before all other errors.
func TestInvalid(t *testing.T) {
	all := slices.Concat(calls(with{}), calls(with{-1, -1, 3, -1}), calls(with{math.MinInt, math.MaxInt, math.MinInt, math.MaxInt}), calls(with{3, 0, 3, 61}))
	for _, change := range changes() {
		p := pairN()
		change(&p)
		for _, c := range all {
			wantError(t, c, p, api.ErrArg)
		}
	}
	for _, c := range all {
		wantError(t, c, api.Pair{}, api.ErrArg)
		// One block alone has no other one that it could be compared with.
		wantError(t, c, still(spans(0, 0), read(0, 0, 0, 0, 0)), api.ErrArg)
		wantError(t, c, still(spans(0, 0), read(0, 1, 0, 0, 0)), api.ErrArg)
	}
}

// TestRange: the section Errors. What is out of range comes before a clash, and before ErrNone.
func TestRange(t *testing.T) {
	want := func(name string, x with, pairs ...api.Pair) {
		t.Helper()
		for _, p := range pairs {
			for _, c := range calls(x) {
				if c.name == name {
					wantError(t, c, p, api.ErrRange)
				}
			}
		}
	}
	for _, n := range []int{math.MinInt, -1, 3, 4, 5, math.MaxInt} {
		want("Known", with{block: n}, pairP(), pairN())
		want("Differ", with{a: n}, pairP(), pairN())
		want("Differ", with{b: n}, pairP(), pairN())
		want("Differ", with{a: n, b: n}, pairP(), pairN())
	}
	for _, n := range []int{math.MinInt, -1, 61, math.MaxInt} {
		want("Shows", with{minute: n}, pairP(), pairN())
	}
	// Each pair has its own blocks, not all that there could be.
	want("Known", with{block: 1}, still(spans(0, 0)))
	want("Differ", with{b: 2}, still(spans(0, 0, 0, 0)))
}

// TestClashError: the section Errors. Without a truth all functions but Groups, Wrong and Clash return ErrClash.
func TestClashError(t *testing.T) {
	for _, p := range []api.Pair{pairN(), ats(80), ats(3, 4), triangle(), drifting(read(0, 1, 0, -80, -1))} {
		for _, c := range calls(with{1, 0, 1, 60}) {
			if c.name != "Groups" && c.name != "Wrong" && c.name != "Clash" {
				wantError(t, c, p, api.ErrClash)
			} else if results := c.do(p); errorOf(results) != api.OK {
				t.Errorf("%s of %v: %v", c.name, p, results)
			}
		}
	}
}

// TestLimits: R7. What just keeps to each limit is valid.
func TestLimits(t *testing.T) {
	five := spans(-20, 20, -20, -20, 20, 20, -20, 20, 0, 0)
	var eight []api.PairRead
	for i := range 8 {
		eight = append(eight, read(i%4, 4, 60*(i%2), -80, 80))
	}
	for _, p := range []api.Pair{
		pairOf(five, span(-10, -6), span(-5, -1), eight...), pairOf(five, span(6, 10), span(1, 5), eight...),
		pairOf(five, span(-10, -10), span(-5, -5), eight...), pairOf(five, span(10, 10), span(5, 5), eight...),
	} {
		for _, c := range slices.Concat(calls(with{0, 0, 4, 0}), calls(with{4, 4, 0, 60})) {
			want := api.OK
			if c.name == "Clash" {
				want = api.ErrNone
			}
			if results := c.do(p); errorOf(results) != want {
				t.Errorf("%s of %v: %v", c.name, p, results)
			}
		}
	}
	// The greatest number and the least one that a comparator can show are those that can be read.
	blocks := spans(20, 20, -20, -20)
	same(t, "Clash", two(pair.Clash(pairOf(blocks, span(10, 10), span(5, 5), read(0, 1, 60, 80, 80)))), two(0, api.ErrNone))
	same(t, "Clash", two(pair.Clash(pairOf(blocks, span(-10, -10), span(-5, -5), read(1, 0, 60, -80, -80)))), two(0, api.ErrNone))
	same(t, "Clash", two(pair.Clash(pairOf(blocks, span(10, 10), span(5, 5), read(0, 1, 59, 80, 80)))), two(1, api.OK))
}

// TestNilAndEmpty: R3. A nil list is an empty one.
func TestNilAndEmpty(t *testing.T) {
	p, q := some(), some()
	p.Reads, q.Reads = nil, []api.PairRead{}
	for _, c := range calls(with{1, 0, 2, 30}) {
		same(t, c.name, c.do(p), c.do(q))
		wantError(t, c, api.Pair{Blocks: []api.Span{}}, api.ErrArg)
	}
}

// TestMemory: R4. No argument is changed, also behind its end.
func TestMemory(t *testing.T) {
	blocks := append(pairN().Blocks, span(7, 7))
	reads := append(pairN().Reads, read(7, 7, 7, 7, 7))
	for n := range 5 {
		p := pairN()
		p.Blocks, p.Reads = blocks[:3], reads[:n]
		for _, c := range calls(with{1, 0, 2, 30}) {
			c.do(p)
		}
	}
	same(t, "blocks", blocks, append(pairN().Blocks, span(7, 7)))
	same(t, "reads", reads, append(pairN().Reads, read(7, 7, 7, 7, 7)))
}
