package wear_test

import (
	"math"
	"reflect"
	"slices"
	"testing"

	"blockworks/api"
	"blockworks/wear"
)

// blockW and blockN are the blocks of the chapter's examples.
func blockW(more ...api.WearEvent) api.Wear {
	events := []api.WearEvent{uses(10), read(85, 95), uses(5), lap(3, 4), read(80, 88)}
	return block(span(100, 102), span(0, 2), append(events, more...)...)
}

func blockN() api.Wear { return blockW(read(89, 90)) }

func block(length, use api.Span, events ...api.WearEvent) api.Wear {
	return api.Wear{Length: length, Use: use, Events: events}
}

// exact returns a block that is known exactly, of which each use takes off 1 or 2.
func exact(length int, events ...api.WearEvent) api.Wear {
	return block(span(length, length), span(1, 2), events...)
}

// same fails unless what a call returned is what is wanted.
func same(t *testing.T, call string, got, want any) {
	t.Helper()
	if !reflect.DeepEqual(got, want) {
		t.Errorf("%s: got %v, want %v", call, got, want)
	}
}

// two and three put the results of a call into one value.
func two[A any](a A, e api.Errno) [2]any { return [2]any{a, e} }
func three(a, b int, e api.Errno) [3]any { return [3]any{a, b, e} }

func long(lo, hi int) [2]any { return two(span(lo, hi), api.OK) }
func number(n int) [2]any    { return two(n, api.OK) }
func sets(a, b int) [3]any   { return three(a, b, api.OK) }
func none() [2]any           { return two(0, api.ErrNone) }

func TestExamples(t *testing.T) {
	w, n := blockW(), blockN()
	same(t, "After 0", two(wear.After(w, 0)), long(85, 95))
	same(t, "After 2", two(wear.After(w, 2)), long(83, 92))
	same(t, "After 3", two(wear.After(w, 3)), long(80, 88))
	same(t, "After 4", two(wear.After(w, 4)), long(80, 88))
	same(t, "Lost", two(wear.Lost(w)), long(12, 22))
	same(t, "Below 90", three(wear.Below(w, 90)), sets(24, 31))
	same(t, "Until 80", two(wear.Until(w, 80)), number(0))
	same(t, "Until 76", two(wear.Until(w, 76)), number(2))
	same(t, "Until 81", two(wear.Until(w, 81)), none())
	same(t, "Day 70", two(wear.Day(w, 70, []int{3, 2, 1})), number(2))
	same(t, "Day 60", two(wear.Day(w, 60, []int{3, 2, 1})), none())
	same(t, "Fits 80..80", two(wear.Fits(w, span(80, 80))), number(1))
	same(t, "Fits 0..500", two(wear.Fits(w, span(0, 500))), number(2))
	same(t, "Fits 89..95", two(wear.Fits(w, span(89, 95))), number(0))
	same(t, "Clash of N", two(wear.Clash(n)), number(48))
	same(t, "Clash", two(wear.Clash(w)), none())
	same(t, "Lost of N", two(wear.Lost(n)), two(api.Span{}, api.ErrClash))
}

// TestAfter: P6.1. What is read later tells how long the block was before, and what was read before how long it is later.
func TestAfter(t *testing.T) {
	for _, x := range []struct {
		w     api.Wear
		after []api.Span
	}{
		{exact(10, uses(0)), []api.Span{span(10, 10)}}, {exact(10, uses(1)), []api.Span{span(8, 9)}}, {exact(10, uses(20)), []api.Span{span(-30, -10)}}, {exact(10, uses(2), uses(3)), []api.Span{span(6, 8), span(0, 5)}},
		{exact(10, lap(0, 0)), []api.Span{span(10, 10)}}, {exact(10, lap(3, 10)), []api.Span{span(0, 7)}}, {exact(10, lap(10, 10), lap(0, 10)), []api.Span{span(0, 0), span(-10, 0)}},
		{exact(10, read(10, 10)), []api.Span{span(10, 10)}}, {exact(10, read(-1000, 1000)), []api.Span{span(10, 10)}}, {block(span(5, 9), span(0, 0), read(7, 20)), []api.Span{span(7, 9)}}, {block(span(5, 9), span(0, 0), read(-20, 7)), []api.Span{span(5, 7)}},
		{block(span(5, 9), span(0, 0), uses(20), read(6, 8), uses(20)), []api.Span{span(6, 8), span(6, 8), span(6, 8)}}, {block(span(5, 9), span(3, 3), uses(2), uses(3)), []api.Span{span(-1, 3), span(-10, -6)}},
		// A later reading tells of the uses, or the lap, before it, and of the length at first.
		{exact(10, uses(4), read(6, 6)), []api.Span{span(6, 6), span(6, 6)}}, {exact(10, uses(2), uses(2), read(6, 6)), []api.Span{span(8, 8), span(6, 6), span(6, 6)}}, {exact(10, uses(2), uses(2), read(3, 4)), []api.Span{span(6, 8), span(3, 4), span(3, 4)}}, {exact(10, uses(2), uses(2), read(2, 3), lap(1, 1)), []api.Span{span(6, 7), span(2, 3), span(2, 3), span(1, 2)}},
		{exact(10, lap(0, 10), lap(2, 4), read(3, 3)), []api.Span{span(5, 7), span(3, 3), span(3, 3)}}, {exact(10, lap(0, 10), uses(1), read(3, 3)), []api.Span{span(4, 5), span(3, 3), span(3, 3)}},
		{block(span(0, 20), span(0, 3), uses(1), lap(2, 2), read(15, 300)), []api.Span{span(17, 20), span(15, 18), span(15, 18)}}, {block(span(280, 300), span(0, 3), lap(1, 2), uses(2), read(-1000, 275)), []api.Span{span(278, 281), span(272, 275), span(272, 275)}},
		// Readings that are far apart bear on all that is between, by both of their ends.
		{block(span(100, 120), span(0, 1), read(110, 120), uses(5), uses(5), lap(0, 0), read(90, 102)), []api.Span{span(110, 112), span(105, 107), span(100, 102), span(100, 102), span(100, 102)}},
		{block(span(100, 120), span(1, 2), read(104, 106), uses(2), uses(2), read(99, 101)), []api.Span{span(104, 106), span(101, 104), span(99, 101), span(99, 101)}},
		{block(span(90, 100), span(0, 3), uses(20), read(50, 95), read(60, 70), read(65, 300)), []api.Span{span(65, 70), span(65, 70), span(65, 70), span(65, 70)}},
	} {
		for i, s := range x.after {
			same(t, "After", two(wear.After(x.w, i)), long(s.Lo, s.Hi))
		}
	}
}

// TestLost: P6.1. The length at first and the last one are those of the same truth.
func TestLost(t *testing.T) {
	for _, x := range []struct {
		w      api.Wear
		lo, hi int
	}{
		{exact(10), 0, 0}, {block(span(0, 20), span(0, 3)), 0, 0}, {block(span(0, 20), span(0, 3), read(3, 15)), 0, 0}, {block(span(0, 20), span(0, 3), uses(1)), 0, 3}, {block(span(0, 20), span(2, 3), uses(4)), 8, 12}, {block(span(0, 20), span(2, 3), uses(0)), 0, 0},
		{block(span(280, 300), span(0, 3), lap(4, 7)), 4, 7}, {block(span(280, 300), span(0, 3), lap(4, 7), uses(2), uses(1), lap(1, 1)), 5, 17}, {exact(0, uses(20), uses(20), lap(10, 10)), 50, 90},
		// Of 0 to 20 those are left that can be 18 after 5 uses, each with what it has lost until then.
		{block(span(0, 20), span(0, 3), uses(5), read(18, 18)), 0, 2}, {block(span(0, 20), span(1, 3), uses(2), read(0, 0)), 2, 6}, {block(span(0, 20), span(1, 3), uses(2), read(-6, -5)), 5, 6}, {block(span(0, 20), span(1, 3), uses(2), read(16, 30)), 2, 4}, {block(span(0, 20), span(1, 3), uses(2), read(17, 30), lap(2, 2)), 4, 5},
		// Both readings have to be so of the same length.
		{block(span(0, 20), span(0, 3), read(10, 12), uses(5), read(5, 6)), 4, 7}, {block(span(0, 20), span(0, 3), read(10, 12), uses(5), read(-100, 100)), 0, 15}, {block(span(0, 20), span(0, 3), uses(5), read(5, 6), uses(1)), 0, 18}, {block(span(0, 20), span(0, 0), read(10, 10), lap(3, 9), read(4, 5), lap(0, 1)), 5, 7},
	} {
		same(t, "Lost", two(wear.Lost(x.w)), long(x.lo, x.hi))
	}
}

// TestBelow: P6.2. What is as long as the limit is not too short; and what is read later counts.
func TestBelow(t *testing.T) {
	some := block(span(10, 12), span(0, 1), uses(0), uses(2), lap(1, 1))
	eight := block(span(300, 300), span(0, 0), slices.Repeat([]api.WearEvent{uses(1)}, 8)...)
	for _, x := range []struct {
		w                      api.Wear
		limit, surely, perhaps int
	}{
		{exact(10), 300, 0, 0}, {exact(10), -1000, 0, 0}, {some, 13, 7, 7}, {some, 12, 4, 7}, {some, 11, 0, 7}, {some, 10, 0, 6}, {some, 9, 0, 6}, {some, 8, 0, 4}, {some, 7, 0, 0}, {some, -1000, 0, 0}, {some, 1000, 7, 7},
		{eight, 300, 0, 0}, {eight, 301, 255, 255}, {exact(-0, uses(1), lap(1, 1), read(-3, -2)), -2, 0, 6}, {exact(-0, uses(1), lap(1, 1), read(-3, -2)), -1, 6, 7},
		{block(span(10, 20), span(0, 0), uses(3), read(18, 30)), 18, 0, 0}, {block(span(10, 20), span(0, 0), uses(3), read(18, 30)), 19, 0, 3}, {block(span(10, 20), span(0, 0), uses(3), read(0, 12)), 13, 3, 3},
	} {
		same(t, "Below", three(wear.Below(x.w, x.limit)), sets(x.surely, x.perhaps))
	}
}

// TestUntil: P6.3. Each use can take off the most; a block that is as long as the limit is not too short yet.
func TestUntil(t *testing.T) {
	used := exact(100, uses(10), read(80, 85))
	for _, x := range []struct {
		w           api.Wear
		limit, uses int
	}{
		{exact(10), 10, 0}, {exact(10), 9, 0}, {exact(10), 8, 1}, {exact(10), 7, 1}, {exact(10), 6, 2}, {exact(10), -188, 99}, {exact(10), -189, 99}, {exact(10), -190, 100}, {exact(10), -191, 100}, {exact(10), -1000, 100},
		{block(span(10, 30), span(0, 1)), 7, 3}, {block(span(10, 30), span(0, 0)), 10, 100}, {block(span(10, 30), span(3, 3)), 0, 3}, {block(span(10, 30), span(3, 3)), 1, 3}, {block(span(10, 30), span(3, 3)), -2, 4}, {block(span(300, 300), span(3, 3)), 0, 100}, {block(span(299, 300), span(3, 3)), 0, 99}, {block(span(0, 0), span(0, 0)), 0, 100},
		{used, 80, 0}, {used, 78, 1}, {used, 60, 10}, {used, -120, 100}, {used, -119, 99},
		// What was used, and lapped, does not count twice.
		{exact(100, uses(20), lap(0, 10), read(59, 60), uses(2)), 55, 0}, {exact(100, uses(20), lap(0, 10), read(59, 60), uses(2)), 45, 5},
	} {
		same(t, "Until", two(wear.Until(x.w, x.limit)), number(x.uses))
	}
	for _, x := range []struct {
		w     api.Wear
		limit int
	}{{exact(10), 11}, {exact(10), 1000}, {block(span(10, 30), span(0, 0)), 11}, {block(span(10, 30), span(0, 0)), 30}, {used, 81}, {used, 86}, {exact(0, uses(1)), -1}} {
		same(t, "Until", two(wear.Until(x.w, x.limit)), none())
	}
}

// TestDay: P6.4. Days go on from one another, and are looked at when they end.
func TestDay(t *testing.T) {
	for _, x := range []struct {
		w     api.Wear
		limit int
		uses  []int
		day   int
	}{
		{exact(10), 8, []int{1, 1}, 1}, {exact(10), 9, []int{1, 1}, 0}, {exact(10), 6, []int{1, 0, 1, 1}, 3}, {exact(10), 6, []int{2, 0, 0, 1, 1}, 3}, {exact(10), 9, []int{0, 0, 1}, 2}, {exact(10), -370, []int{20, 20, 20, 20, 20, 20, 20, 20, 20, 20}, 9}, {exact(10), -389, []int{20, 20, 20, 20, 20, 20, 20, 20, 20, 20}, 9}, {exact(10), -350, []int{20, 20, 20, 20, 20, 20, 20, 20, 20, 20}, 9}, {exact(10), -349, []int{20, 20, 20, 20, 20, 20, 20, 20, 20, 20}, 8},
		// What is too short at first is so at the end of the first day, also if the block is not used.
		{exact(10), 11, []int{0}, 0}, {exact(10), 11, []int{0, 5}, 0}, {exact(10), 1000, []int{20}, 0}, {block(span(10, 30), span(0, 0)), 11, []int{0, 0}, 0},
		{block(span(10, 30), span(0, 1)), 10, []int{0, 0, 1}, 2}, {block(span(10, 30), span(0, 3)), 4, []int{1, 1, 1}, 2}, {exact(100, uses(10), read(80, 85)), 80, []int{0, 1}, 1}, {exact(100, uses(10), read(80, 85)), 70, []int{2, 2, 2, 2}, 2},
	} {
		same(t, "Day", two(wear.Day(x.w, x.limit, x.uses)), number(x.day))
	}
	for _, x := range []struct {
		w     api.Wear
		limit int
		uses  []int
	}{
		{exact(10), 10, nil}, {exact(10), 1000, nil}, {exact(10), 10, []int{0, 0, 0}}, {exact(10), 8, []int{1}}, {exact(10), -390, []int{20, 20, 20, 20, 20, 20, 20, 20, 20, 20}}, {exact(10), -1000, []int{20}}, {block(span(10, 30), span(0, 0)), 10, []int{20, 20}}, {exact(100, uses(10), read(80, 85)), 70, []int{2, 2, 1}},
	} {
		same(t, "Day", two(wear.Day(x.w, x.limit, x.uses)), none())
	}
}

// TestFits: P6.5. Of 31 to 34 both ends are looked at, from both sides.
func TestFits(t *testing.T) {
	first := block(span(31, 34), span(0, 2))
	last := block(span(40, 40), span(1, 2), uses(2), lap(4, 5), read(31, 40))
	for _, w := range []api.Wear{first, last} {
		for _, x := range []struct{ lo, hi, fits int }{
			{31, 34, api.WearAlways}, {30, 34, api.WearAlways}, {31, 35, api.WearAlways}, {-1000, 1000, api.WearAlways},
			{32, 34, api.WearPerhaps}, {31, 33, api.WearPerhaps}, {32, 33, api.WearPerhaps}, {34, 34, api.WearPerhaps}, {31, 31, api.WearPerhaps}, {34, 1000, api.WearPerhaps}, {-1000, 31, api.WearPerhaps}, {33, 90, api.WearPerhaps}, {0, 33, api.WearPerhaps},
			{35, 40, api.WearNever}, {0, 30, api.WearNever}, {35, 35, api.WearNever}, {30, 30, api.WearNever}, {35, 1000, api.WearNever}, {-1000, 30, api.WearNever}, {-1000, -1000, api.WearNever}, {1000, 1000, api.WearNever},
		} {
			same(t, "Fits", two(wear.Fits(w, span(x.lo, x.hi))), number(x.fits))
		}
	}
	same(t, "Fits 0..0", two(wear.Fits(exact(0), span(0, 0))), number(api.WearAlways))
	same(t, "Fits below 0", two(wear.Fits(exact(0, lap(3, 3)), span(-3, -3))), number(api.WearAlways))
	same(t, "the numbers", []int{api.WearNever, api.WearPerhaps, api.WearAlways}, []int{0, 1, 2})
}

// TestClash: P6.6. Fewer readings come before a lesser number, and a lesser number before a greater one.
func TestClash(t *testing.T) {
	for _, x := range []struct {
		w     api.Wear
		clash int
	}{
		{exact(10, read(11, 11)), 1}, {exact(10, read(9, 9)), 1}, {exact(10, uses(1), read(10, 10)), 2}, {exact(10, uses(1), read(7, 7)), 2}, {exact(10, lap(2, 3), read(9, 1000)), 2}, {exact(10, lap(2, 3), read(-1000, 6)), 2}, {exact(10, read(10, 10), read(11, 11)), 2}, {exact(10, read(11, 11), read(9, 9)), 1}, {exact(10, read(10, 10), read(11, 11), read(9, 9)), 2},
		{wide(read(100, 104), read(105, 110)), 3}, {wide(read(105, 110), read(100, 104)), 3}, {wide(read(100, 104), read(100, 110), read(105, 110)), 5}, {wide(read(100, 110), read(100, 104), read(105, 110)), 6}, {wide(read(100, 104), read(105, 110), read(100, 101)), 3}, {wide(read(105, 110), read(100, 104), read(100, 101)), 3}, {wide(read(100, 104), read(100, 101), read(105, 110)), 5},
		{wide(read(100, 104), uses(1), read(104, 110)), 5}, {wide(read(105, 110), uses(1), read(100, 102)), 5}, {wide(read(105, 110), lap(2, 3), read(100, 101)), 5}, {wide(read(105, 110), lap(2, 3), read(109, 110)), 5}, {wide(read(105, 110), lap(2, 3), lap(2, 3), read(100, 105), read(107, 120)), 17},
		{wide(uses(0), lap(0, 0), read(100, 101), uses(0), uses(0), lap(0, 0), uses(0), read(102, 102)), 132}, {wide(read(100, 100), read(101, 101), read(102, 102), read(103, 103), read(104, 104), read(105, 105), read(106, 106), read(107, 107)), 3}, {wide(read(100, 110), read(101, 111), read(102, 112), read(103, 113), read(104, 114), read(105, 115), read(106, 116), read(111, 117)), 129},
		// A reading that alone cannot be comes before two that cannot both be.
		{wide(read(100, 104), read(105, 110), uses(20), uses(20), read(121, 121)), 16}, {wide(read(100, 104), read(105, 110), uses(20), lap(0, 0), read(121, 121)), 16}, {wide(read(100, 104), read(105, 110), read(99, 99)), 4},
		// Of several pairs that cannot both be, that of the least number is not always that with the first reading.
		{wide(read(102, 106), read(100, 103), read(105, 110), read(108, 120)), 6},
		{wide(read(110, 120), read(100, 109), read(100, 100), read(120, 120)), 3}, {wide(read(100, 120), read(100, 115), read(110, 120), read(100, 109)), 12}, {wide(read(100, 120), read(100, 115), read(116, 120), read(100, 114)), 6},
	} {
		same(t, "Clash", two(wear.Clash(x.w)), number(x.clash))
	}
	for _, w := range []api.Wear{exact(10), exact(10, uses(20), lap(10, 10)), exact(10, read(10, 10)), exact(10, uses(1), read(8, 8)), wide(read(100, 105), read(105, 110)), wide(read(105, 110), uses(1), read(102, 103)), wide(read(100, 110), read(101, 111), read(102, 112), read(103, 113), read(104, 114), read(105, 115), read(106, 116), read(110, 117))} {
		same(t, "Clash", two(wear.Clash(w)), none())
	}
}

// wide returns a block of which little is known at first.
func wide(events ...api.WearEvent) api.Wear { return block(span(100, 120), span(1, 2), events...) }

// beside is what functions take beside a block.
type beside struct {
	event, limit int
	shows        api.Span
	days         []int
}

// proper is what all functions take if a block has one event at least.
func proper() beside { return beside{0, 70, span(80, 80), []int{3, 2, 20}} }

// call is one call of a function of the package, as the list of all its results.
type call struct {
	name string
	do   func(w api.Wear) []any
}

func calls(x beside) []call {
	list := func(results ...any) []any { return results }
	return []call{
		{"After", func(w api.Wear) []any { s, e := wear.After(w, x.event); return list(s, e) }},
		{"Lost", func(w api.Wear) []any { s, e := wear.Lost(w); return list(s, e) }},
		{"Below", func(w api.Wear) []any { a, b, e := wear.Below(w, x.limit); return list(a, b, e) }},
		{"Until", func(w api.Wear) []any { n, e := wear.Until(w, x.limit); return list(n, e) }},
		{"Day", func(w api.Wear) []any { n, e := wear.Day(w, x.limit, x.days); return list(n, e) }},
		{"Fits", func(w api.Wear) []any { n, e := wear.Fits(w, x.shows); return list(n, e) }},
		{"Clash", func(w api.Wear) []any { n, e := wear.Clash(w); return list(n, e) }},
	}
}

func errorOf(results []any) any { return results[len(results)-1] }

// wantError fails unless a call returns the error, and zero values beside it (R2).
func wantError(t *testing.T, c call, w api.Wear, e api.Errno) {
	t.Helper()
	results := c.do(w)
	for _, r := range results[:len(results)-1] {
		if !reflect.ValueOf(r).IsZero() {
			t.Errorf("%s of %v: result %v beside an error", c.name, w, r)
		}
	}
	if errorOf(results) != e {
		t.Errorf("%s of %v: error %v, want %v", c.name, w, errorOf(results), e)
	}
}

// want fails unless the functions of some names return the error.
func want(t *testing.T, names []string, x beside, w api.Wear, e api.Errno) {
	t.Helper()
	for _, c := range calls(x) {
		if slices.Contains(names, c.name) {
			wantError(t, c, w, e)
		}
	}
}

// strange are spans that are never valid, whichever limits they have to keep to.
func strange(more ...api.Span) []api.Span {
	return append(more,
		span(1, 0), span(3, 2), span(0, -1), span(math.MinInt, math.MaxInt), span(math.MaxInt, math.MinInt), span(math.MinInt, 0), span(0, math.MaxInt),
		span(math.MinInt, math.MinInt), span(math.MaxInt, math.MaxInt), span(0, math.MinInt), span(math.MaxInt, 0), span(math.MinInt, 3), span(3, math.MaxInt),
	)
}

// changes are ways to change a block that begins as W; each one alone is enough to make it invalid.
func changes() []func(w *api.Wear) {
	list := []func(w *api.Wear){
		func(w *api.Wear) { w.Events = make([]api.WearEvent, 9) },
		func(w *api.Wear) { w.Events = make([]api.WearEvent, 100000) },
	}
	for _, s := range strange(span(-1, 0), span(-1, -1), span(300, 301), span(301, 301), span(0, 21), span(280, 301), span(279, 300), span(0, 300)) {
		list = append(list, func(w *api.Wear) { w.Length = s }, func(w *api.Wear) { w.Length, w.Events = s, nil })
	}
	for _, s := range strange(span(-1, 0), span(-1, -1), span(3, 4), span(4, 4), span(0, 4), span(-1, 3)) {
		list = append(list, func(w *api.Wear) { w.Use = s }, func(w *api.Wear) { w.Use, w.Events = s, nil })
	}
	var bad []api.WearEvent
	for _, n := range []int{math.MinInt, -1, 21, math.MaxInt} {
		bad = append(bad, uses(n))
	}
	for _, s := range strange(span(-1001, 0), span(-1001, -1001), span(0, 1001), span(1001, 1001), span(-1001, 1001)) {
		bad = append(bad, read(s.Lo, s.Hi))
	}
	for _, s := range strange(span(-1, 0), span(-1, -1), span(10, 11), span(11, 11), span(0, 11), span(-1, 10)) {
		bad = append(bad, lap(s.Lo, s.Hi))
	}
	for _, kind := range []int{math.MinInt, -1, 3, 4, math.MaxInt} {
		bad = append(bad, api.WearEvent{Kind: kind}, api.WearEvent{Kind: kind, Uses: 1, Span: span(1, 2)})
	}
	for _, e := range bad {
		for i := range 5 {
			list = append(list, func(w *api.Wear) { w.Events[i] = e })
		}
		list = append(list, func(w *api.Wear) { w.Events = []api.WearEvent{e} })
	}
	return list
}

// TestInvalid: the section Errors, R1, R2 and R8. A block that is not valid comes before all other errors.
func TestInvalid(t *testing.T) {
	bad := beside{-1, 1001, span(1, 0), make([]int, 11)}
	worst := beside{math.MaxInt, math.MinInt, span(math.MaxInt, math.MinInt), []int{math.MinInt}}
	for _, change := range changes() {
		for _, w := range []api.Wear{blockW(), blockN()} {
			change(&w)
			for _, c := range slices.Concat(calls(proper()), calls(bad), calls(worst)) {
				wantError(t, c, w, api.ErrArg)
			}
		}
	}
}

// TestRange: the section Errors. What is out of range comes before a clash, and before there is none.
func TestRange(t *testing.T) {
	for _, w := range []api.Wear{blockW(), blockN(), exact(10), exact(10, read(11, 11))} {
		for _, event := range []int{math.MinInt, -1, len(w.Events), len(w.Events) + 1, 8, 9, math.MaxInt} {
			want(t, []string{"After"}, beside{event: event}, w, api.ErrRange)
		}
		for _, limit := range []int{math.MinInt, -1001, 1001, math.MaxInt} {
			want(t, []string{"Below", "Until"}, beside{limit: limit}, w, api.ErrRange)
			for _, days := range [][]int{nil, {0}, {20, 20}, {21}, make([]int, 10)} {
				want(t, []string{"Day"}, beside{limit: limit, days: days}, w, api.ErrRange)
			}
		}
		for _, s := range strange(span(-1001, 0), span(-1001, -1001), span(0, 1001), span(1001, 1001), span(-1001, 1001)) {
			want(t, []string{"Fits"}, beside{shows: s}, w, api.ErrRange)
		}
		for _, days := range [][]int{{-1}, {21}, {0, 21}, {0, 0, 0, 0, 0, 0, 0, 0, 0, -1}, {20, 20, math.MaxInt}, {math.MinInt, 0}} {
			for _, limit := range []int{-1000, 0, 1000} {
				want(t, []string{"Day"}, beside{limit: limit, days: days}, w, api.ErrRange)
			}
		}
	}
}

// TestLong: the section Errors. Too many days come before what is out of range, and before a clash.
func TestLong(t *testing.T) {
	for _, w := range []api.Wear{blockW(), blockN()} {
		for _, limit := range []int{math.MinInt, -1001, -1000, 70, 1000, 1001} {
			for _, days := range [][]int{make([]int, 11), {21, 0, 0, 0, 0, 0, 0, 0, 0, 0, 0}, {0, 0, 0, 0, 0, 0, 0, 0, 0, 0, -1}, make([]int, 100000)} {
				want(t, []string{"Day"}, beside{limit: limit, days: days}, w, api.ErrLong)
			}
		}
	}
}

// TestClashError: the section Errors. Without a truth all functions but Clash return ErrClash, also before there is none.
func TestClashError(t *testing.T) {
	for _, w := range []api.Wear{blockN(), exact(70, read(71, 71)), exact(80, uses(1), uses(0), read(80, 1000)), exact(80, lap(10, 10), lap(10, 10), read(-1000, 59), uses(20), lap(0, 10)), wide(read(100, 104), uses(1), read(104, 110))} {
		for _, limit := range []int{-1000, 70, 1000} {
			for _, days := range [][]int{nil, {0}, {20, 20}} {
				x := beside{len(w.Events) - 1, limit, span(70, 71), days}
				want(t, []string{"After", "Lost", "Below", "Until", "Day", "Fits"}, x, w, api.ErrClash)
			}
		}
		if n, e := wear.Clash(w); n == 0 || e != api.OK {
			t.Errorf("Clash of %v: %b, %v", w, n, e)
		}
	}
}

// TestLimits: R7. What just keeps to each limit is valid.
func TestLimits(t *testing.T) {
	all := []api.WearEvent{uses(0), uses(20), read(-1000, 1000), read(-1000, -1000), read(1000, 1000), lap(0, 10), lap(0, 0), lap(10, 10)}
	for _, first := range []api.Span{span(0, 0), span(0, 20), span(280, 300), span(300, 300), span(100, 120)} {
		for _, use := range []api.Span{span(0, 0), span(0, 3), span(3, 3)} {
			same(t, "Clash", two(wear.Clash(block(first, use, all...))), number(8))
			good := block(first, use, slices.Repeat([]api.WearEvent{uses(20), read(-1000, 1000), lap(10, 10), lap(0, 10)}, 2)...)
			lost := span(40*use.Lo+20, 40*use.Hi+40)
			same(t, "Lost", two(wear.Lost(good)), two(lost, api.OK))
			same(t, "After 7", two(wear.After(good, 7)), long(first.Lo-lost.Hi, first.Hi-lost.Lo))
			same(t, "Fits", two(wear.Fits(good, span(-1000, 1000))), number(api.WearAlways))
			same(t, "Fits", two(wear.Fits(good, span(-1000, -1000))), number(api.WearNever))
			same(t, "Fits", two(wear.Fits(good, span(1000, 1000))), number(api.WearNever))
			same(t, "Below", three(wear.Below(good, -1000)), sets(0, 0))
			same(t, "Below", three(wear.Below(good, 1000)), sets(255, 255))
			same(t, "Until", two(wear.Until(good, -1000)), number(100))
			same(t, "Until", two(wear.Until(good, 1000)), none())
			same(t, "Day", two(wear.Day(good, 1000, []int{20, 0, 20, 0, 20, 0, 20, 0, 20, 0})), number(0))
			same(t, "Day", two(wear.Day(good, -1000, []int{0})), none())
		}
	}
	same(t, "the limits", []int{api.WearLength, api.WearWide, api.WearUse, api.WearUsed, api.WearOff, api.WearShows, api.WearEvents, api.WearDays, api.WearMore}, []int{300, 20, 3, 20, 10, 1000, 8, 10, 100})
	same(t, "the kinds", []int{api.WearUses, api.WearRead, api.WearLap}, []int{0, 1, 2})
}

// TestUnused: R8. A field that a kind does not use is not looked at.
func TestUnused(t *testing.T) {
	for _, n := range []int{math.MinInt, -1, 21, math.MaxInt} {
		for _, s := range strange(span(3, 4), span(-2000, 2000)) {
			for _, w := range []api.Wear{blockW(), blockN()} {
				v := clone(w)
				for i := range v.Events {
					if e := &v.Events[i]; e.Kind == api.WearUses {
						e.Span = s
					} else {
						e.Uses = n
					}
				}
				for _, c := range calls(proper()) {
					same(t, c.name, c.do(v), c.do(w))
				}
			}
		}
	}
}

// TestNilAndEmpty: R3. A nil list of events is an empty one, and so is one of days.
func TestNilAndEmpty(t *testing.T) {
	a, b := blockW(), blockW()
	a.Events, b.Events = nil, []api.WearEvent{}
	for _, c := range calls(proper()) {
		same(t, c.name, c.do(a), c.do(b))
	}
	for _, w := range []api.Wear{a, blockW(), blockN()} {
		for _, limit := range []int{-1000, 85, 1000, 1001} {
			same(t, "Day", two(wear.Day(w, limit, nil)), two(wear.Day(w, limit, []int{})))
		}
	}
}

// TestMemory: P6.7 and R4. No argument is changed, also behind its end.
func TestMemory(t *testing.T) {
	events := append(blockN().Events, uses(7))
	days := []int{3, 2, 1, 99}
	for n := range events {
		w := blockW()
		w.Events = events[:n]
		for _, c := range calls(beside{0, 70, span(80, 80), days[:3]}) {
			c.do(w)
		}
	}
	same(t, "the events", events, append(blockN().Events, uses(7)))
	same(t, "the days", days, []int{3, 2, 1, 99})
}
