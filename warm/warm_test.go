package warm_test

import (
	"math"
	"reflect"
	"slices"
	"testing"

	"blockworks/api"
	"blockworks/warm"
)

// blockW, blockX and blockN are the blocks of the chapter's examples.
func blockW(more ...api.WarmReading) api.Warm {
	return api.Warm{Mark: 50, Length: span(-3, 3), Coeff: span(10, 12), Readings: append([]api.WarmReading{read(1, 2, 52, 58)}, more...)}
}

func blockX() api.Warm { return blockW(read(0, 0, 2, 3)) }

func blockN() api.Warm { return blockW(read(0, 0, 2, 3), read(2, 2, 115, 120)) }

// block returns a block with readings, or without one.
func block(mark int, length, coeff api.Span, readings ...api.WarmReading) api.Warm {
	return api.Warm{Mark: mark, Length: length, Coeff: coeff, Readings: readings}
}

// same fails unless what a call returned is what is wanted.
func same(t *testing.T, call string, got, want any) {
	t.Helper()
	if !reflect.DeepEqual(got, want) {
		t.Errorf("%s: got %v, want %v", call, got, want)
	}
}

// pair and triple put the results of a call into one value.
func pair[A any](a A, e api.Errno) [2]any           { return [2]any{a, e} }
func triple[A, B any](a A, b B, e api.Errno) [3]any { return [3]any{a, b, e} }

func TestExamples(t *testing.T) {
	w, x, n := blockW(), blockX(), blockN()
	same(t, "Length W", pair(warm.Length(w)), pair(span(-3, 3), api.OK))
	same(t, "Length X", pair(warm.Length(x)), pair(span(2, 3), api.OK))
	same(t, "Coeff W", pair(warm.Coeff(w)), pair(span(10, 12), api.OK))
	same(t, "Coeff X", pair(warm.Coeff(x)), pair(span(10, 11), api.OK))
	same(t, "Held W 0", pair(warm.Held(w, 0)), pair(span(1, 1), api.OK))
	same(t, "Shows W 0..0", pair(warm.Shows(w, span(0, 0))), pair(span(-3, 3), api.OK))
	same(t, "Shows W 2..2", pair(warm.Shows(w, span(2, 2))), pair(span(102, 118), api.OK))
	same(t, "Shows X -1..1", pair(warm.Shows(x, span(-1, 1))), pair(span(-53, 58), api.OK))
	same(t, "Room W 60", pair(warm.Room(w, 60)), pair(1, api.OK))
	same(t, "Room W 59", pair(warm.Room(w, 59)), pair(0, api.OK))
	same(t, "Count W", pair(warm.Count(w)), pair(11, api.OK))
	same(t, "Count X", pair(warm.Count(x)), pair(4, api.OK))
	same(t, "Count N", pair(warm.Count(n)), pair(0, api.OK))
	same(t, "Next W 0 1 2", triple(warm.Next(w, []int{0, 1, 2})), triple(2, 1, api.OK))
	same(t, "Next W 0 1", triple(warm.Next(w, []int{0, 1})), triple(0, 2, api.OK))
	same(t, "Clash N", pair(warm.Clash(n)), pair(6, api.OK))
	same(t, "Clash X", pair(warm.Clash(x)), pair(0, api.ErrNone))
	same(t, "Length N", pair(warm.Length(n)), pair(api.Span{}, api.ErrClash))
}

// TestLengthAndCoeff: P2.1. Without readings all is left, and a reading leaves what can have shown it.
func TestLengthAndCoeff(t *testing.T) {
	for _, x := range []struct {
		w             api.Warm
		length, coeff api.Span
	}{
		{block(1, span(-1000, -976), span(0, 3)), span(-1000, -976), span(0, 3)},
		{block(100, span(976, 1000), span(17, 20)), span(976, 1000), span(17, 20)},
		{block(7, span(5, 5), span(4, 4)), span(5, 5), span(4, 4)},
		// At the right warmth a block shows its length, however much it grows.
		{block(50, span(-3, 3), span(10, 12), read(0, 0, -1, 30000)), span(-1, 3), span(10, 12)},
		{block(50, span(-3, 3), span(10, 12), read(0, 0, -30000, -3)), span(-3, -3), span(10, 12)},
		// 1 * 1 * -1 / 10 is rounded down to -1, 1 * 1 * 9 / 10 to 0.
		{block(1, span(-3, 3), span(1, 1), read(-1, -1, 0, 0)), span(1, 1), span(1, 1)},
		{block(1, span(-3, 3), span(1, 1), read(-10, -10, 0, 0)), span(1, 1), span(1, 1)},
		{block(1, span(-3, 3), span(1, 1), read(-11, -11, 0, 0)), span(2, 2), span(1, 1)},
		{block(1, span(-3, 3), span(1, 1), read(9, 9, 0, 0)), span(0, 0), span(1, 1)},
		{block(1, span(-3, 3), span(1, 1), read(10, 10, 0, 0)), span(-1, -1), span(1, 1)},
		// The pairs that are left are 0 with 0, 3 with 1, and 6 with 2.
		{block(30, span(0, 6), span(0, 2), read(-1, -1, 0, 0)), span(0, 6), span(0, 2)},
		{block(30, span(1, 6), span(0, 2), read(-1, -1, 0, 0)), span(3, 6), span(1, 2)},
		// A coefficient is the same in all readings: 1 at the first one leaves none but 1 at the second one.
		{block(100, span(0, 0), span(0, 3), read(1, 1, 10, 19), read(2, 3, 0, 100)), span(0, 0), span(1, 1)},
	} {
		same(t, "Length", pair(warm.Length(x.w)), pair(x.length, api.OK))
		same(t, "Coeff", pair(warm.Coeff(x.w)), pair(x.coeff, api.OK))
	}
}

// TestHeld: P2.2. Each reading has a warmth of its own, and one bears on another by the length and the coefficient alone.
func TestHeld(t *testing.T) {
	for _, x := range []struct {
		w    api.Warm
		held []api.Span
	}{
		{block(50, span(0, 0), span(10, 10), read(-2, 2, -30000, 30000)), []api.Span{span(-2, 2)}},
		{block(50, span(0, 0), span(10, 10), read(-2, 2, -50, 99)), []api.Span{span(-1, 1)}},
		{block(50, span(0, 0), span(10, 10), read(-2, 2, -150, -100)), []api.Span{span(-2, -2)}},
		{block(50, span(0, 0), span(0, 0), read(96, 100, 0, 0)), []api.Span{span(96, 100)}},
		{block(10, span(0, 0), span(1, 2), read(0, 4, 2, 2)), []api.Span{span(1, 2)}},
		{block(10, span(0, 0), span(1, 2), read(0, 4, 2, 2), read(1, 1, 1, 1)), []api.Span{span(2, 2), span(1, 1)}},
		{block(10, span(0, 0), span(1, 2), read(-4, 0, -4, -4), read(0, 1, 2, 2)), []api.Span{span(-2, -2), span(1, 1)}},
		{block(10, span(0, 3), span(1, 1), read(0, 3, 3, 3), read(0, 3, 3, 3)), []api.Span{span(0, 3), span(0, 3)}},
	} {
		for i, s := range x.held {
			same(t, "Held", pair(warm.Held(x.w, i)), pair(s, api.OK))
		}
	}
}

// TestShows: P2.3. The numbers are those of all integers of the warmth, rounded down also below 0.
func TestShows(t *testing.T) {
	for _, x := range []struct {
		w             api.Warm
		warmth, shows api.Span
	}{
		{block(1, span(0, 0), span(1, 1)), span(-1, -1), span(-1, -1)},
		{block(1, span(0, 0), span(1, 1)), span(-10, -10), span(-1, -1)},
		{block(1, span(0, 0), span(1, 1)), span(-11, 19), span(-2, 1)},
		{block(3, span(-7, -7), span(3, 3)), span(-1, 1), span(-8, -7)},
		{block(100, span(976, 1000), span(17, 20)), span(-100, 100), span(-19024, 21000)},
		{block(100, span(-1000, -976), span(17, 20)), span(-100, 100), span(-21000, 19024)},
		{block(100, span(-5, 5), span(0, 0)), span(-100, 100), span(-5, 5)},
		{block(50, span(-3, 3), span(10, 12)), span(3, 4), span(147, 243)},
		// The pairs that are left are 1 with 1, and 0 with 2: not 0 with 1, nor 1 with 2.
		{block(10, span(0, 1), span(1, 2), read(1, 1, 2, 2)), span(2, 2), span(3, 4)},
		{block(10, span(0, 1), span(1, 2), read(1, 1, 2, 2)), span(-1, -1), span(-2, 0)},
	} {
		same(t, "Shows", pair(warm.Shows(x.w, x.warmth)), pair(x.shows, api.OK))
	}
}

// TestRoom: P2.4. A block shrinks by more than it grows, as it is rounded down, and the room never is wider than WarmMost.
func TestRoom(t *testing.T) {
	for _, x := range []struct {
		w         api.Warm
		off, most int
	}{
		{block(1, span(0, 0), span(1, 1)), 0, 0},
		{block(1, span(0, 0), span(1, 1)), 1, 10},
		{block(1, span(0, 0), span(1, 1)), 9, 90},
		{block(1, span(0, 0), span(1, 1)), 10, 100},
		{block(1, span(0, 0), span(1, 1)), 30000, 100},
		{block(100, span(5, 9), span(0, 0)), 0, 100},
		{block(100, span(-1000, 1000-1976), span(17, 20)), 199, 0},
		{block(100, span(-1000, 1000-1976), span(17, 20)), 200, 1},
		{block(100, span(976, 1000), span(17, 20)), 19999, 99},
		{block(100, span(976, 1000), span(17, 20)), 20000, 100},
		{block(3, span(0, 0), span(3, 3)), 2, 2},
		{block(3, span(0, 0), span(3, 3)), 3, 3},
		// What was read leaves the lesser coefficient alone.
		{block(50, span(0, 0), span(10, 12), read(1, 1, 0, 54)), 54, 1},
		{block(50, span(0, 0), span(10, 12), read(1, 1, 0, 54)), 100, 2},
		{block(50, span(0, 0), span(10, 12)), 100, 1},
	} {
		same(t, "Room", pair(warm.Room(x.w, x.off)), pair(x.most, api.OK))
	}
}

// TestCount: P2.5. A pair counts once, at however many warmths it shows what was read.
func TestCount(t *testing.T) {
	for _, x := range []struct {
		w    api.Warm
		many int
	}{
		{block(1, span(0, 0), span(0, 0)), 1},
		{block(1, span(0, 0), span(0, 0), read(-2, 2, 0, 0), read(0, 4, 0, 0)), 1},
		{block(1, span(-24, 0), span(2, 5)), 100},
		{block(1, span(-24, 0), span(2, 5), read(0, 4, -30000, 30000)), 100},
		{block(10, span(0, 1), span(1, 2), read(1, 1, 2, 2)), 2},
		{block(10, span(0, 1), span(1, 2), read(1, 1, 4, 4)), 0},
		{block(10, span(0, 1), span(1, 2), read(1, 1, 2, 2), read(1, 1, 3, 3)), 0},
	} {
		same(t, "Count", pair(warm.Count(x.w)), pair(x.many, api.OK))
	}
}

// TestNext: P2.6. The worst number of each offer counts, and of equal offers the first one is told.
func TestNext(t *testing.T) {
	wide := block(10, span(0, 2), span(1, 3))
	for _, x := range []struct {
		w           api.Warm
		offers      []int
		offer, left int
	}{
		{wide, []int{0}, 0, 3}, {wide, []int{1}, 0, 3}, {wide, []int{2}, 0, 2}, {wide, []int{3}, 0, 1},
		{wide, []int{0, 1}, 0, 3}, {wide, []int{1, 0, 2}, 2, 2}, {wide, []int{0, -2, 2}, 1, 2},
		{wide, []int{0, 1, 2, -3, 3, 100}, 3, 1}, {wide, []int{-100, 100}, 0, 1}, {wide, []int{2, 2, 0}, 0, 2},
		{block(1, span(0, 24), span(0, 3)), []int{0, -1, 100}, 2, 3},
		{block(1, span(0, 24), span(0, 3)), []int{1, 2}, 0, 4},
		{block(1, span(0, 0), span(3, 3)), []int{-7}, 0, 1},
	} {
		same(t, "Next", triple(warm.Next(x.w, x.offers)), triple(x.offer, x.left, api.OK))
	}
}

// TestClash: P2.7. Fewer readings come before a lesser number, and a lesser number before a greater one.
func TestClash(t *testing.T) {
	zero := func(readings ...api.WarmReading) api.Warm { return block(10, span(0, 9), span(0, 3), readings...) }
	at := func(n int) api.WarmReading { return read(0, 0, n, n) }
	for _, x := range []struct {
		w     api.Warm
		clash int
	}{
		{zero(at(10)), 1}, {zero(at(-1)), 1}, {zero(at(3), at(10)), 2}, {zero(at(3), at(4), at(10)), 4},
		{zero(at(3), at(4)), 3}, {zero(at(3), at(3), at(4)), 5}, {zero(at(3), at(4), at(4)), 3}, {zero(at(4), at(3), at(3), at(4)), 3},
		{zero(at(3), at(3), at(3), at(3), at(4)), 17}, {zero(at(3), at(3), at(3), at(10), at(11)), 8},
		// Any two of these go together; all three do not.
		{zero(read(0, 0, 0, 1), read(1, 1, 2, 2), read(2, 2, 2, 2)), 7},
		{zero(read(0, 0, 0, 9), read(0, 0, 0, 1), read(1, 1, 2, 2), read(0, 0, 0, 9), read(2, 2, 2, 2)), 22},
	} {
		same(t, "Clash", pair(warm.Clash(x.w)), pair(x.clash, api.OK))
	}
	for _, w := range []api.Warm{zero(), zero(at(0)), zero(at(9), at(9)), zero(read(0, 0, 0, 1), read(1, 1, 2, 2)), zero(read(-4, 0, -12, -12))} {
		same(t, "Clash", pair(warm.Clash(w)), pair(0, api.ErrNone))
	}
}

// with is what functions take beside a block.
type with struct {
	reading, off int
	warmth       api.Span
	offers       []int
}

// proper is what all functions take if a block has one reading at least.
func proper() with { return with{0, 60, span(-1, 1), []int{0, 1, 2}} }

// call is one call of a function of the package, as the list of all its results.
type call struct {
	name string
	do   func(w api.Warm) []any
}

func calls(x with) []call {
	list := func(results ...any) []any { return results }
	return []call{
		{"Length", func(w api.Warm) []any { a, e := warm.Length(w); return list(a, e) }},
		{"Coeff", func(w api.Warm) []any { a, e := warm.Coeff(w); return list(a, e) }},
		{"Held", func(w api.Warm) []any { a, e := warm.Held(w, x.reading); return list(a, e) }},
		{"Shows", func(w api.Warm) []any { a, e := warm.Shows(w, x.warmth); return list(a, e) }},
		{"Room", func(w api.Warm) []any { a, e := warm.Room(w, x.off); return list(a, e) }},
		{"Count", func(w api.Warm) []any { a, e := warm.Count(w); return list(a, e) }},
		{"Next", func(w api.Warm) []any { a, b, e := warm.Next(w, x.offers); return list(a, b, e) }},
		{"Clash", func(w api.Warm) []any { a, e := warm.Clash(w); return list(a, e) }},
	}
}

// wantError fails unless a call returns the error, and zero values beside it (R2).
func wantError(t *testing.T, c call, w api.Warm, e api.Errno) {
	t.Helper()
	results := c.do(w)
	last := len(results) - 1
	for _, r := range results[:last] {
		if !reflect.ValueOf(r).IsZero() {
			t.Errorf("%s of %v: result %v beside an error", c.name, w, r)
		}
	}
	if results[last] != e {
		t.Errorf("%s of %v: error %v, want %v", c.name, w, results[last], e)
	}
}

// changes are ways to change the block N; each one alone is enough to make it invalid.
func changes() []func(w *api.Warm) {
	list := []func(w *api.Warm){
		func(w *api.Warm) { w.Readings = make([]api.WarmReading, 6) },
		func(w *api.Warm) { w.Readings = make([]api.WarmReading, 100000) },
	}
	for _, mark := range []int{math.MinInt, -1, 0, 101, math.MaxInt} {
		list = append(list, func(w *api.Warm) { w.Mark = mark })
	}
	everywhere := []api.Span{
		span(1, 0), span(0, -1), span(math.MinInt, math.MaxInt), span(math.MaxInt, math.MinInt), span(math.MinInt, 0), span(0, math.MaxInt),
		span(math.MinInt, math.MinInt), span(math.MaxInt, math.MaxInt), span(0, math.MinInt), span(math.MaxInt, 0),
	}
	for _, s := range append([]api.Span{span(-1001, -1000), span(1000, 1001), span(0, 25), span(-1000, -975), span(-1000, 1000), span(-1001, -1001), span(1001, 1001)}, everywhere...) {
		list = append(list, func(w *api.Warm) { w.Length = s })
	}
	for _, s := range append([]api.Span{span(-1, 0), span(-1, -1), span(20, 21), span(21, 21), span(0, 4), span(16, 20), span(0, 20)}, everywhere...) {
		list = append(list, func(w *api.Warm) { w.Coeff = s })
	}
	for i := range 3 {
		for _, s := range append([]api.Span{span(-101, -100), span(-101, -101), span(100, 101), span(101, 101), span(0, 5), span(-100, -95), span(-100, 100)}, everywhere...) {
			list = append(list, func(w *api.Warm) { w.Readings[i].Warm = s })
		}
		for _, s := range append([]api.Span{span(-30001, 0), span(-30001, -30001), span(0, 30001), span(30001, 30001)}, everywhere...) {
			list = append(list, func(w *api.Warm) { w.Readings[i].Shows = s })
		}
	}
	return list
}

// TestInvalid: the section Errors, R1, R2 and P1. A block that is not valid comes before all other errors.
func TestInvalid(t *testing.T) {
	bad := with{-1, -1, span(1, 0), make([]int, 7)}
	worst := with{math.MinInt, math.MaxInt, span(math.MaxInt, math.MinInt), []int{math.MinInt}}
	none := with{5, 30001, span(-101, 101), nil}
	for _, change := range changes() {
		w := blockN()
		change(&w)
		for _, c := range slices.Concat(calls(proper()), calls(bad), calls(worst), calls(none)) {
			wantError(t, c, w, api.ErrArg)
		}
	}
	for _, c := range slices.Concat(calls(proper()), calls(bad)) {
		wantError(t, c, api.Warm{}, api.ErrArg)
	}
}

// TestRange: the section Errors. What is out of range comes before a clash.
func TestRange(t *testing.T) {
	want := func(name string, x with) {
		t.Helper()
		for _, w := range []api.Warm{blockX(), blockN()} {
			for _, c := range calls(x) {
				if c.name == name {
					wantError(t, c, w, api.ErrRange)
				}
			}
		}
	}
	for _, reading := range []int{math.MinInt, -1, 3, 5, math.MaxInt} {
		want("Held", with{reading: reading})
	}
	for _, off := range []int{math.MinInt, -1, 30001, math.MaxInt} {
		want("Room", with{off: off})
	}
	for _, s := range []api.Span{span(1, 0), span(-101, 0), span(0, 101), span(-101, -101), span(101, 101), span(math.MinInt, math.MaxInt), span(math.MaxInt, math.MinInt)} {
		want("Shows", with{warmth: s})
	}
	for _, offers := range [][]int{nil, {}, {-101}, {101}, {0, 1, 101}, {0, 0, 0, 0, 0, -101}, {math.MinInt}, {math.MaxInt}} {
		want("Next", with{offers: offers})
	}
	// Without readings there is none.
	_, e := warm.Held(block(1, span(0, 0), span(0, 0)), 0)
	same(t, "Held", e, api.ErrRange)
	_, e = warm.Held(blockX(), 2)
	same(t, "Held", e, api.ErrRange)
}

// TestLong: the section Errors. Too many offers come before one that is out of range, and before a clash.
func TestLong(t *testing.T) {
	for _, offers := range [][]int{make([]int, 7), {101, 0, 0, 0, 0, 0, 0}, {0, 0, 0, 0, 0, 0, math.MinInt}, make([]int, 100000)} {
		for _, w := range []api.Warm{blockX(), blockN()} {
			wantError(t, call{"Next", func(w api.Warm) []any { a, b, e := warm.Next(w, offers); return []any{a, b, e} }}, w, api.ErrLong)
		}
	}
	same(t, "Next", triple(warm.Next(blockW(), []int{0, 0, 0, 0, 0, 2})), triple(5, 1, api.OK))
}

// TestClashError: the section Errors. Without a truth all functions but Count and Clash return ErrClash.
func TestClashError(t *testing.T) {
	for _, c := range calls(proper()) {
		if c.name != "Count" && c.name != "Clash" {
			wantError(t, c, blockN(), api.ErrClash)
		} else if results := c.do(blockN()); results[len(results)-1] != api.OK {
			t.Errorf("%s of N: %v", c.name, results)
		}
	}
}

// TestLimits: R7. What just keeps to each limit is valid.
func TestLimits(t *testing.T) {
	five := []api.WarmReading{read(-100, -96, -30000, 30000), read(96, 100, -30000, 30000), read(0, 4, -30000, 30000), read(-2, 2, -30000, 30000), read(0, 0, -30000, 30000)}
	for _, w := range []api.Warm{
		block(1, span(-1000, -976), span(0, 3), five...), block(100, span(976, 1000), span(17, 20), five...),
		block(1, span(-1000, -1000), span(0, 0), five[:1]...), block(100, span(1000, 1000), span(20, 20), five[:1]...),
	} {
		for _, x := range []with{
			{len(w.Readings) - 1, 30000, span(-100, 100), []int{-100, 100, -100, 100, -100, 100}},
			{0, 0, span(-100, -100), []int{100}}, {0, 0, span(100, 100), []int{-100}},
		} {
			for _, c := range calls(x) {
				results := c.do(w)
				want := api.OK
				if c.name == "Clash" {
					want = api.ErrNone
				}
				if results[len(results)-1] != want {
					t.Errorf("%s of %v: %v", c.name, w, results)
				}
			}
		}
		pairs := (w.Length.Hi - w.Length.Lo + 1) * (w.Coeff.Hi - w.Coeff.Lo + 1)
		same(t, "Count", pair(warm.Count(w)), pair(pairs, api.OK))
	}
	// The last number that can be asked for is one, though no block shows it.
	same(t, "Clash", pair(warm.Clash(block(100, span(1000, 1000), span(20, 20), read(100, 100, 30000, 30000)))), pair(1, api.OK))
	same(t, "Count", pair(warm.Count(block(100, span(1000, 1000), span(20, 20), read(100, 100, 21000, 21000)))), pair(1, api.OK))
}

// TestNilAndEmpty: R3. A nil list of readings is an empty one, and so is one of offers.
func TestNilAndEmpty(t *testing.T) {
	without, empty := blockW(), blockW()
	without.Readings, empty.Readings = nil, []api.WarmReading{}
	for _, c := range calls(proper()) {
		same(t, c.name, c.do(without), c.do(empty))
	}
	same(t, "Next", triple(warm.Next(blockW(), nil)), triple(warm.Next(blockW(), []int{})))
}

// TestMemory: P2.8 and R4. No argument is changed, also behind its end.
func TestMemory(t *testing.T) {
	readings := append(blockN().Readings, read(7, 7, 7, 7))
	offers := []int{0, 1, 2, 99}
	for n := range 4 {
		w := blockN()
		w.Readings = readings[:n]
		for _, c := range calls(with{0, 60, span(-1, 1), offers[:3]}) {
			c.do(w)
		}
	}
	same(t, "readings", readings, append(blockN().Readings, read(7, 7, 7, 7)))
	same(t, "offers", offers, []int{0, 1, 2, 99})
}
