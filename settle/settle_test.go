package settle_test

import (
	"reflect"
	"testing"

	"blockworks/api"
	"blockworks/settle"
)

// settleS is the settle of the chapter's examples.
func settleS() api.Settle {
	return made(5, 12, []api.SettleBlock{
		{Excess: span(40, 44), Slow: exactly(4), Grows: span(10, 12)},
		{Excess: span(-6, -5), Slow: span(2, 3), Grows: span(0, 0)},
	}, touch(1, 4, 8, 10))
}

func made(near, last int, blocks []api.SettleBlock, touches ...api.SettleTouch) api.Settle {
	return api.Settle{Blocks: blocks, Near: near, Last: last, Touches: touches}
}

// alone returns a settle of one block that does not grow.
func alone(near, last int, excess, slow api.Span, touches ...api.SettleTouch) api.Settle {
	return made(near, last, []api.SettleBlock{{Excess: excess, Slow: slow}}, touches...)
}

// grows returns a settle of one block that grows.
func grows(grow, excess, slow api.Span, touches ...api.SettleTouch) api.Settle {
	return made(0, 4, []api.SettleBlock{{Excess: excess, Slow: slow, Grows: grow}}, touches...)
}

// same fails unless what a call returned is what is wanted.
func same(t *testing.T, call string, got, want any) {
	t.Helper()
	if !reflect.DeepEqual(got, want) {
		t.Errorf("%s: got %v, want %v", call, got, want)
	}
}

// two puts the results of a call into one value. A list is one that is nil if it is empty, as both are the same.
func two[A any](a A, e api.Errno) [2]any { return [2]any{a, e} }
func row(list []api.Span, e api.Errno) [2]any {
	return [2]any{append([]api.Span(nil), list...), e}
}

func long(lo, hi int) [2]any        { return two(span(lo, hi), api.OK) }
func number(n int) [2]any           { return two(n, api.OK) }
func none() [2]any                  { return two(0, api.ErrNone) }
func these(list ...api.Span) [2]any { return row(list, api.OK) }

func TestExamples(t *testing.T) {
	s := settleS()
	same(t, "Excess 0 in 4", two(settle.Excess(s, 0, 4)), long(12, 13))
	same(t, "Excess 0 in 7", two(settle.Excess(s, 0, 7)), long(4, 4))
	same(t, "Excess 1 in 1", two(settle.Excess(s, 1, 1)), long(-4, -2))
	same(t, "Excess 1 in 4", two(settle.Excess(s, 1, 4)), long(8, 10))
	same(t, "Excess 1 in 5", two(settle.Excess(s, 1, 5)), long(4, 6))
	same(t, "Longer 0 in 0", two(settle.Longer(s, 0, 0)), long(40, 52))
	same(t, "Longer 1 in 4", two(settle.Longer(s, 1, 4)), long(0, 0))
	same(t, "Settled 0 in 6", two(settle.Settled(s, 0, 6)), number(0))
	same(t, "Settled 0 in 7", two(settle.Settled(s, 0, 7)), number(2))
	same(t, "Settled 1 in 0", two(settle.Settled(s, 1, 0)), number(1))
	same(t, "Settled 1 in 5", two(settle.Settled(s, 1, 5)), number(1))
	same(t, "When 0", two(settle.When(s, 0)), number(7))
	same(t, "When 1", two(settle.When(s, 1)), number(6))
	same(t, "All", two(settle.All(s)), number(7))
	same(t, "Rests 1", row(settle.Rests(s, 1)), these(span(1, 3), span(6, 12)))
	same(t, "Rests 0", row(settle.Rests(s, 0)), these(span(7, 12)))
	same(t, "Wait 0 with 44", two(settle.Wait(s, 0, 44)), number(7))
	same(t, "Wait 1 with -9", two(settle.Wait(s, 1, -9)), number(2))
	same(t, "Wait 0 with 5", two(settle.Wait(s, 0, 5)), number(0))
	same(t, "Latest 0 with 20 by 12", two(settle.Latest(s, 0, 20, 12)), number(7))
	same(t, "Latest 0 with 100 by 7", two(settle.Latest(s, 0, 100, 7)), none())
}

// TestExcess: P9.1. What an excess falls by is rounded up, on both sides of 0; heats are added in their minute.
func TestExcess(t *testing.T) {
	for _, x := range []struct {
		s       api.Settle
		minutes []api.Span
	}{
		{alone(0, 4, exactly(0), span(2, 8)), []api.Span{exactly(0), exactly(0), exactly(0), exactly(0), exactly(0)}},
		{alone(0, 4, exactly(8), exactly(2)), []api.Span{exactly(8), exactly(4), exactly(2), exactly(1), exactly(0)}},
		{alone(0, 4, exactly(9), exactly(2)), []api.Span{exactly(9), exactly(4), exactly(2), exactly(1), exactly(0)}},
		{alone(0, 4, exactly(-9), exactly(2)), []api.Span{exactly(-9), exactly(-4), exactly(-2), exactly(-1), exactly(0)}},
		{alone(0, 3, exactly(10), exactly(3)), []api.Span{exactly(10), exactly(6), exactly(4), exactly(2)}},
		{alone(0, 3, exactly(-10), exactly(3)), []api.Span{exactly(-10), exactly(-6), exactly(-4), exactly(-2)}},
		{alone(0, 3, exactly(17), exactly(8)), []api.Span{exactly(17), exactly(14), exactly(12), exactly(10)}},
		{alone(0, 3, exactly(100), exactly(8)), []api.Span{exactly(100), exactly(87), exactly(76), exactly(66)}},
		{alone(0, 3, exactly(-100), exactly(2)), []api.Span{exactly(-100), exactly(-50), exactly(-25), exactly(-12)}},
		{alone(0, 2, span(-100, 100), exactly(2)), []api.Span{span(-100, 100), span(-50, 50), span(-25, 25)}},
		// The quickest block is least warm, and least cold.
		{alone(0, 2, span(10, 12), span(2, 5)), []api.Span{span(10, 12), span(5, 9), span(2, 7)}},
		{alone(0, 2, span(-12, -10), span(2, 5)), []api.Span{span(-12, -10), span(-9, -5), span(-7, -2)}},
		{alone(0, 2, span(-3, 9), span(2, 8)), []api.Span{span(-3, 9), span(-2, 7), span(-1, 6)}},
		// It is as slow in one minute as in another one: that which was slow is warmer when it is touched, and then colder.
		{alone(0, 2, exactly(80), exactly(2), touch(0, 1, -100, -100)), []api.Span{exactly(80), exactly(-60), exactly(-30)}},
		{alone(0, 2, exactly(80), exactly(8), touch(0, 1, -100, -100)), []api.Span{exactly(80), exactly(-30), exactly(-26)}},
		// Coldest in the end is one that is neither the quickest nor the slowest: as slow as 3.
		{alone(0, 2, exactly(80), exactly(3), touch(0, 1, -100, -100)), []api.Span{exactly(80), exactly(-47), exactly(-31)}},
		{alone(0, 2, exactly(80), span(2, 8), touch(0, 1, -100, -100)), []api.Span{exactly(80), span(-60, -30), span(-31, -26)}},
		{alone(0, 2, exactly(-80), span(2, 8), touch(0, 1, 100, 100)), []api.Span{exactly(-80), span(30, 60), span(26, 31)}},
		// A touch counts in its minute, also in the first one and the last one; several count together.
		{alone(0, 2, exactly(10), exactly(2), touch(0, 0, 3, 5)), []api.Span{span(13, 15), span(6, 7), exactly(3)}},
		{alone(0, 2, exactly(10), exactly(2), touch(0, 2, -3, 5)), []api.Span{exactly(10), exactly(5), span(-1, 7)}},
		{alone(0, 2, exactly(1), exactly(2), touch(0, 1, 1, 2), touch(0, 1, -5, -5), touch(0, 1, 0, 40)), []api.Span{exactly(1), span(-4, 37), span(-2, 18)}},
		{alone(0, 1, span(90, 100), exactly(2), touch(0, 0, 100, 100), touch(0, 0, 99, 100), touch(0, 0, 100, 100), touch(0, 0, 100, 100), touch(0, 0, 100, 100), touch(0, 0, 100, 100)), []api.Span{span(689, 700), span(344, 350)}},
		{alone(0, 1, span(-100, -90), exactly(2), touch(0, 0, -100, -100), touch(0, 0, -100, -99), touch(0, 0, -100, -100), touch(0, 0, -100, -100), touch(0, 0, -100, -100), touch(0, 0, -100, -100)), []api.Span{span(-700, -689), span(-350, -344)}},
	} {
		m := modelOf(x.s)
		for minute, want := range x.minutes {
			same(t, "the table", want, m.excess(0, minute))
			same(t, "Excess", two(settle.Excess(x.s, 0, minute)), two(want, api.OK))
		}
		if t.Failed() {
			t.Fatalf("the settle is %v", x.s)
		}
	}
}

// TestBlocks: P9.1. Each block has an excess of its own, and is touched alone.
func TestBlocks(t *testing.T) {
	s := made(0, 3, []api.SettleBlock{
		{Excess: exactly(16), Slow: exactly(2)}, {Excess: exactly(-16), Slow: exactly(4)}, {Excess: exactly(16), Slow: exactly(8)}, {Slow: exactly(2)},
	}, touch(2, 1, 1, 2), touch(0, 2, -4, -4), touch(2, 3, 5, 5), touch(1, 0, 4, 4))
	for block, minutes := range [][]api.Span{
		{exactly(16), exactly(8), exactly(0), exactly(0)},
		{exactly(-12), exactly(-9), exactly(-6), exactly(-4)},
		{exactly(16), span(15, 16), span(13, 14), span(16, 17)},
		{exactly(0), exactly(0), exactly(0), exactly(0)},
	} {
		for minute, want := range minutes {
			same(t, "Excess", two(settle.Excess(s, block, minute)), two(want, api.OK))
		}
	}
}

// TestLonger: P9.2. It is rounded down, also below 0; the ends are of the least and the greatest excess, with what grows most or least.
func TestLonger(t *testing.T) {
	for _, x := range []struct {
		s       api.Settle
		minutes []api.Span
	}{
		{grows(exactly(10), exactly(8), exactly(2)), []api.Span{exactly(8), exactly(4), exactly(2), exactly(1), exactly(0)}},
		{grows(exactly(10), exactly(-8), exactly(2)), []api.Span{exactly(-8), exactly(-4), exactly(-2), exactly(-1), exactly(0)}},
		{grows(exactly(3), exactly(13), exactly(2)), []api.Span{exactly(3), exactly(1), exactly(0), exactly(0), exactly(0)}},
		{grows(exactly(3), exactly(-13), exactly(2)), []api.Span{exactly(-4), exactly(-2), exactly(-1), exactly(-1), exactly(0)}},
		{grows(exactly(1), exactly(-1), exactly(2)), []api.Span{exactly(-1), exactly(0)}},
		{grows(exactly(1), exactly(10), exactly(8)), []api.Span{exactly(1), exactly(0)}},
		{grows(exactly(1), exactly(-10), exactly(8)), []api.Span{exactly(-1), exactly(-1)}},
		{grows(exactly(1), exactly(-11), exactly(8)), []api.Span{exactly(-2), exactly(-1)}},
		{grows(exactly(0), span(-100, 100), span(2, 8)), []api.Span{exactly(0), exactly(0), exactly(0)}},
		{grows(exactly(20), span(-100, 100), exactly(2)), []api.Span{span(-200, 200), span(-100, 100)}},
		{grows(span(0, 20), span(-7, 5), exactly(2)), []api.Span{span(-14, 10), span(-6, 4)}},
		{grows(span(2, 7), span(20, 25), exactly(2)), []api.Span{span(4, 17), span(2, 8)}},
		{grows(span(2, 7), span(-25, -20), exactly(2)), []api.Span{span(-18, -4), span(-9, -2)}},
		{grows(span(2, 7), span(-25, 20), exactly(2)), []api.Span{span(-18, 14), span(-9, 7)}},
		{grows(span(2, 7), span(0, 20), exactly(2)), []api.Span{span(0, 14), span(0, 7)}},
		{grows(span(5, 9), exactly(-8), span(2, 4), touch(0, 1, 9, 9)), []api.Span{span(-8, -4), span(1, 4), exactly(1)}},
		{grows(exactly(20), exactly(100), exactly(2), touch(0, 0, 100, 100), touch(0, 0, 100, 100), touch(0, 0, 100, 100), touch(0, 0, 100, 100), touch(0, 0, 100, 100), touch(0, 0, 100, 100)), []api.Span{exactly(1400), exactly(700)}},
	} {
		m := modelOf(x.s)
		for minute, want := range x.minutes {
			same(t, "the table", want, m.longer(0, minute))
			same(t, "Longer", two(settle.Longer(x.s, 0, minute)), two(want, api.OK))
		}
		if t.Failed() {
			t.Fatalf("the settle is %v", x.s)
		}
	}
}

// TestSettled: P9.3. A block has settled just at the bound; where it is slow or quick it may have in no truth, though it has both less and more.
func TestSettled(t *testing.T) {
	never, perhaps, always := api.SettleNever, api.SettlePerhaps, api.SettleAlways
	for _, x := range []struct {
		s       api.Settle
		settled []int
	}{
		{alone(0, 4, exactly(8), exactly(2)), []int{never, never, never, never, always}},
		{alone(2, 4, exactly(8), exactly(2)), []int{never, never, always, always, always}},
		{alone(2, 4, exactly(-8), exactly(2)), []int{never, never, always, always, always}},
		{alone(1, 4, span(-8, 8), exactly(2)), []int{perhaps, perhaps, perhaps, always, always}},
		{alone(5, 1, span(5, 6), exactly(2)), []int{perhaps, always}}, {alone(5, 1, span(-6, -5), exactly(2)), []int{perhaps, always}}, {alone(5, 1, span(-5, 5), exactly(2)), []int{always, always}}, {alone(5, 1, span(6, 7), exactly(8)), []int{never, perhaps}}, {alone(5, 1, span(-7, -6), exactly(8)), []int{never, perhaps}}, {alone(5, 1, span(-6, 6), exactly(2)), []int{perhaps, always}},
		{alone(0, 1, exactly(0), exactly(8)), []int{always, always}}, {alone(0, 1, span(-1, 1), exactly(8)), []int{perhaps, always}}, {alone(0, 1, exactly(1), exactly(8)), []int{never, always}}, {alone(0, 1, exactly(-1), exactly(8)), []int{never, always}}, {alone(20, 1, exactly(20), exactly(8)), []int{always, always}}, {alone(20, 1, exactly(-21), exactly(8)), []int{never, always}},
		// Only the quickest one, or only the slowest one, has settled.
		{alone(5, 1, exactly(10), span(2, 3)), []int{never, perhaps}},
		{alone(5, 1, exactly(50), span(2, 3), touch(0, 1, -33, -33)), []int{never, perhaps}},
		{alone(5, 1, exactly(50), span(2, 3), touch(0, 1, -25, -25)), []int{never, perhaps}},
		// One that is quick is too cold, and one that is slow is too warm, and no other one is between.
		{alone(3, 1, exactly(50), span(2, 3), touch(0, 1, -29, -29)), []int{never, never}},
		{alone(4, 1, exactly(50), span(2, 3), touch(0, 1, -29, -29)), []int{never, always}},
		{alone(3, 1, exactly(-50), span(2, 3), touch(0, 1, 29, 29)), []int{never, never}},
		{alone(3, 1, exactly(50), span(2, 4), touch(0, 1, -35, -35)), []int{never, perhaps}},
		{alone(1, 1, exactly(50), span(2, 4), touch(0, 1, -35, -35)), []int{never, never}},
		{alone(12, 1, exactly(50), span(2, 4), touch(0, 1, -31, -31)), []int{never, always}},
		{alone(5, 2, exactly(0), exactly(2), touch(0, 1, 0, 0), touch(0, 2, 6, 6)), []int{always, always, never}},
	} {
		m := modelOf(x.s)
		for minute, want := range x.settled {
			same(t, "the table", want, m.settled(0, minute))
			same(t, "Settled", two(settle.Settled(x.s, 0, minute)), number(want))
		}
		if t.Failed() {
			t.Fatalf("the settle is %v", x.s)
		}
	}
	same(t, "the numbers", []int{never, perhaps, always}, []int{0, 1, 2})
}

// TestWhenAndRests: P9.4 and P9.5. What a touch unsettles does not count for When, but it rested before; the last minute counts, and nothing after it.
func TestWhenAndRests(t *testing.T) {
	for _, x := range []struct {
		s     api.Settle
		when  [2]any
		rests [2]any
	}{
		{alone(0, 4, exactly(0), exactly(8)), number(0), these(span(0, 4))},
		{alone(0, 4, exactly(8), exactly(2)), number(4), these(exactly(4))},
		{alone(0, 3, exactly(8), exactly(2)), none(), these()},
		{alone(2, 60, exactly(8), exactly(2)), number(2), these(span(2, 60))},
		{alone(5, 4, span(5, 6), exactly(2)), number(1), these(span(1, 4))},
		{alone(5, 1, exactly(10), exactly(2)), number(1), these(exactly(1))},
		{alone(5, 1, exactly(11), exactly(2)), number(1), these(exactly(1))},
		{alone(5, 1, exactly(12), exactly(2)), none(), these()},
		{alone(5, 4, exactly(0), exactly(2), touch(0, 4, 6, 6)), none(), these(span(0, 3))},
		{alone(5, 4, exactly(0), exactly(2), touch(0, 4, 5, 6)), none(), these(span(0, 3))},
		{alone(5, 4, exactly(0), exactly(2), touch(0, 4, 5, 5)), number(0), these(span(0, 4))},
		{alone(5, 4, exactly(0), exactly(2), touch(0, 3, -6, 5)), number(4), these(span(0, 2), exactly(4))},
		{alone(5, 4, exactly(0), exactly(2), touch(0, 0, 6, 6), touch(0, 2, 6, 6)), number(3), these(exactly(1), span(3, 4))},
		{alone(5, 9, exactly(0), exactly(2), touch(0, 1, 6, 6), touch(0, 4, -9, 0), touch(0, 9, 30, 30)), none(), these(exactly(0), span(2, 3), span(5, 8))},
		// A touch can also settle a block.
		{alone(5, 3, exactly(100), exactly(8), touch(0, 0, -100, -100)), number(0), these(span(0, 3))},
		{alone(5, 3, exactly(100), exactly(8), touch(0, 2, -76, -76)), number(2), these(span(2, 3))},
		{alone(5, 3, exactly(100), span(7, 8), touch(0, 2, -76, -76)), number(2), these(span(2, 3))},
		{alone(1, 3, exactly(100), span(7, 8), touch(0, 2, -76, -76)), none(), these()},
	} {
		m := modelOf(x.s)
		same(t, "the table", [2]any{x.when, x.rests}, [2]any{m.when(0), these(m.rests(0)...)})
		same(t, "When", two(settle.When(x.s, 0)), x.when)
		same(t, "All", two(settle.All(x.s)), x.when)
		same(t, "Rests", row(settle.Rests(x.s, 0)), x.rests)
		if t.Failed() {
			t.Fatalf("the settle is %v", x.s)
		}
	}
}

// TestAll: P9.4. All blocks have settled from the minute on from which the last one has; if one never has there is none.
func TestAll(t *testing.T) {
	at := func(excess int) api.SettleBlock {
		return api.SettleBlock{Excess: exactly(excess), Slow: exactly(2)}
	}
	for _, x := range []struct {
		s    api.Settle
		when []any
		all  [2]any
	}{
		{made(0, 4, []api.SettleBlock{at(0), at(0), at(0), at(0)}), []any{number(0), number(0), number(0), number(0)}, number(0)},
		{made(0, 4, []api.SettleBlock{at(2), at(8), at(-4)}), []any{number(2), number(4), number(3)}, number(4)},
		{made(0, 4, []api.SettleBlock{at(8), at(2)}), []any{number(4), number(2)}, number(4)},
		{made(0, 3, []api.SettleBlock{at(2), at(8)}), []any{number(2), none()}, none()},
		{made(0, 3, []api.SettleBlock{at(8), at(2)}), []any{none(), number(2)}, none()},
		{made(0, 3, []api.SettleBlock{at(0), at(0), at(0), at(0)}, touch(3, 3, 0, 1)), []any{number(0), number(0), number(0), none()}, none()},
		{made(0, 3, []api.SettleBlock{at(0), at(0), at(0), at(0)}, touch(3, 2, 0, 1), touch(0, 0, 3, 3)), []any{number(2), number(0), number(0), number(3)}, number(3)},
	} {
		m := modelOf(x.s)
		same(t, "the table", x.all, m.all())
		same(t, "All", two(settle.All(x.s)), x.all)
		for block, when := range x.when {
			same(t, "When", any(two(settle.When(x.s, block))), when)
		}
		if t.Failed() {
			t.Fatalf("the settle is %v", x.s)
		}
	}
}

// TestWait: P9.6. The block's own excess, touches and the last minute make no difference; the slowest one counts.
func TestWait(t *testing.T) {
	for _, x := range []struct {
		near         int
		slow         api.Span
		excess, wait int
	}{
		{0, span(2, 8), 0, 0}, {20, span(2, 8), 20, 0}, {20, span(2, 8), -20, 0}, {20, span(2, 8), 21, 1}, {20, span(2, 8), -21, 1}, {0, exactly(8), 1, 1}, {0, exactly(2), -1, 1},
		{0, exactly(2), 8, 4}, {0, exactly(2), 7, 3}, {0, exactly(2), -8, 4}, {1, exactly(2), 8, 3}, {2, exactly(2), 8, 2}, {3, exactly(2), 8, 2}, {4, exactly(2), 8, 1}, {7, exactly(2), 8, 1}, {8, exactly(2), 8, 0},
		{5, exactly(4), 44, 7}, {5, span(2, 4), 44, 7}, {5, span(2, 3), -9, 2}, {0, exactly(2), 100, 7}, {0, exactly(8), 100, 24}, {0, exactly(8), -100, 24}, {0, span(2, 8), -100, 24}, {0, span(2, 7), 100, 21}, {20, exactly(8), 100, 11},
	} {
		for _, last := range []int{1, 60} {
			for _, touches := range [][]api.SettleTouch{nil, {touch(0, 0, 50, 50), touch(0, 1, -100, 100)}} {
				s := alone(x.near, last, span(-100, 99), x.slow, touches...)
				same(t, "the table", number(x.wait), modelOf(s).wait(0, x.excess))
				same(t, "Wait", two(settle.Wait(s, 0, x.excess)), number(x.wait))
			}
		}
		if t.Failed() {
			t.Fatalf("within %d, as slow as %v, with %d", x.near, x.slow, x.excess)
		}
	}
	s := made(0, 1, []api.SettleBlock{{Slow: exactly(2)}, {Slow: exactly(8)}, {Slow: exactly(3)}})
	for block, want := range []int{7, 24, 11} {
		same(t, "Wait", two(settle.Wait(s, block, 100)), number(want))
	}
}

// TestLatest: P9.7. Only the minute by which it has to settle counts; an earlier touch is not always better, and there can be as many touches as are allowed.
func TestLatest(t *testing.T) {
	six := []api.SettleTouch{touch(0, 0, 1, 1), touch(0, 0, -1, -1), touch(0, 1, 2, 2), touch(0, 1, -2, -2), touch(0, 2, 3, 3), touch(0, 2, -3, -3)}
	for _, x := range []struct {
		s        api.Settle
		heat, by int
		latest   [2]any
	}{
		{alone(0, 9, exactly(0), exactly(2)), 0, 9, number(9)}, {alone(0, 9, exactly(0), exactly(2)), 0, 0, number(0)}, {alone(0, 9, exactly(1), exactly(2)), 0, 0, none()}, {alone(0, 9, exactly(1), exactly(2)), -1, 0, number(0)},
		{alone(0, 9, exactly(0), exactly(2)), 8, 9, number(5)}, {alone(0, 9, exactly(0), exactly(2)), -8, 9, number(5)}, {alone(0, 9, exactly(0), exactly(2)), 8, 4, number(0)}, {alone(0, 9, exactly(0), exactly(2)), 8, 3, none()}, {alone(8, 9, exactly(0), exactly(2)), 8, 9, number(9)}, {alone(7, 9, exactly(0), exactly(2)), 8, 9, number(8)},
		{alone(0, 9, exactly(0), exactly(2), six...), 8, 9, number(5)}, {alone(20, 60, exactly(0), exactly(8)), 100, 60, number(49)}, {alone(0, 60, exactly(0), exactly(8)), 100, 60, number(36)},
		// It has to be near in that minute alone, neither before nor after it.
		{alone(0, 9, exactly(0), exactly(2), touch(0, 4, 1, 1)), 0, 3, number(3)}, {alone(0, 9, exactly(0), exactly(2), touch(0, 4, 1, 1)), 0, 4, none()}, {alone(0, 9, exactly(0), exactly(2), touch(0, 4, 1, 1)), -1, 4, number(4)}, {alone(0, 9, exactly(0), exactly(2), touch(0, 4, 1, 1)), 0, 5, number(5)}, {alone(0, 9, exactly(0), exactly(2), touch(0, 9, 1, 1)), 8, 8, number(4)},
		// What is added just in time makes up for what the block is too cold by; earlier that would be too little, and later too much.
		{alone(1, 3, exactly(-40), exactly(2)), 2, 3, none()}, {alone(1, 3, exactly(-40), exactly(2)), 10, 2, number(2)}, {alone(1, 3, exactly(-40), exactly(2)), 10, 3, number(2)}, {alone(1, 3, exactly(-40), exactly(2)), 19, 3, number(1)}, {alone(1, 3, exactly(-40), exactly(2)), 12, 3, number(2)}, {alone(1, 3, exactly(-40), exactly(2)), 23, 3, number(1)}, {alone(1, 3, exactly(-40), exactly(2)), 41, 3, number(0)}, {alone(1, 3, exactly(-40), exactly(2)), 60, 3, none()},
		// What other touches do is not known exactly, nor how slow the block is.
		{alone(3, 9, exactly(0), exactly(2), touch(0, 8, -3, 4)), 0, 9, number(9)}, {alone(3, 9, exactly(0), exactly(2), touch(0, 8, -3, 4)), 2, 9, number(8)}, {alone(3, 9, exactly(0), exactly(2), touch(0, 9, -2, 4)), 0, 9, none()}, {alone(3, 9, exactly(0), exactly(2), touch(0, 9, -2, 4)), -1, 9, number(9)}, {alone(3, 9, exactly(0), exactly(2), touch(0, 9, -2, 4)), -2, 9, number(8)}, {alone(3, 9, exactly(0), exactly(2), touch(0, 9, -2, 4)), -4, 9, number(7)}, {alone(3, 9, exactly(0), exactly(2), touch(0, 9, -3, 4)), -1, 9, none()},
		{alone(4, 9, exactly(0), span(2, 4)), 16, 9, number(5)}, {alone(4, 9, exactly(0), exactly(2)), 16, 9, number(7)}, {alone(4, 1, exactly(50), span(2, 3)), -29, 1, number(1)}, {alone(3, 1, exactly(50), span(2, 3)), -29, 1, none()},
	} {
		same(t, "the table", x.latest, modelOf(x.s).latest(0, x.heat, x.by))
		same(t, "Latest", two(settle.Latest(x.s, 0, x.heat, x.by)), x.latest)
		if t.Failed() {
			t.Fatalf("the settle is %v, with %d by %d", x.s, x.heat, x.by)
		}
	}
	s := made(0, 4, []api.SettleBlock{{Excess: exactly(50), Slow: exactly(8)}, {Slow: exactly(2)}}, touch(0, 4, 1, 1))
	same(t, "Latest of another block", two(settle.Latest(s, 1, 2, 4)), number(2))
}
