package settle_test

import (
	"math"
	"reflect"
	"slices"
	"testing"

	"blockworks/api"
	"blockworks/settle"
)

// asked is what functions are asked beside a settle: a block, a minute, and an excess or a heat.
type asked struct{ block, minute, warmth int }

// call is one call of a function of the package, as the list of all its results.
type call struct {
	name string
	do   func(s api.Settle) []any
}

func calls(a asked) []call {
	list := func(results ...any) []any { return results }
	return []call{
		{"Excess", func(s api.Settle) []any { x, e := settle.Excess(s, a.block, a.minute); return list(x, e) }},
		{"Longer", func(s api.Settle) []any { x, e := settle.Longer(s, a.block, a.minute); return list(x, e) }},
		{"Settled", func(s api.Settle) []any { n, e := settle.Settled(s, a.block, a.minute); return list(n, e) }},
		{"When", func(s api.Settle) []any { n, e := settle.When(s, a.block); return list(n, e) }},
		{"All", func(s api.Settle) []any { n, e := settle.All(s); return list(n, e) }},
		{"Rests", func(s api.Settle) []any { x, e := settle.Rests(s, a.block); return list(x, e) }},
		{"Wait", func(s api.Settle) []any { n, e := settle.Wait(s, a.block, a.warmth); return list(n, e) }},
		{"Latest", func(s api.Settle) []any { n, e := settle.Latest(s, a.block, a.warmth, a.minute); return list(n, e) }},
	}
}

// wantError fails unless a call returns the error, and zero values beside it (R2).
func wantError(t *testing.T, c call, s api.Settle, e api.Errno) {
	t.Helper()
	results := c.do(s)
	if v := reflect.ValueOf(results[0]); !v.IsZero() && !(v.Kind() == reflect.Slice && v.Len() == 0) {
		t.Errorf("%s of %v: result %v beside an error", c.name, s, results[0])
	}
	if results[1] != e {
		t.Errorf("%s of %v: error %v, want %v", c.name, s, results[1], e)
	}
}

// want fails unless the functions of some names return the error, and the other ones do not.
func want(t *testing.T, names []string, a asked, s api.Settle, e api.Errno) {
	t.Helper()
	for _, c := range calls(a) {
		if slices.Contains(names, c.name) {
			wantError(t, c, s, e)
		} else if got := c.do(s)[1]; got == e {
			t.Errorf("%s of %v: error %v", c.name, s, got)
		}
	}
}

// beside are numbers just beside a span, and far from it.
func beside(lo, hi int) []int {
	return []int{math.MinInt, lo - 100, lo - 2, lo - 1, hi + 1, hi + 2, hi + 100, math.MaxInt}
}

// badSpans are spans that are not valid, or do not lie from lo to hi.
func badSpans(lo, hi int) []api.Span {
	list := []api.Span{span(hi, lo), span(lo+1, lo), span(hi, hi-1), span(math.MinInt, math.MaxInt), span(math.MaxInt, math.MinInt), span(lo-1, hi+1), span(hi+1, lo-1)}
	for _, n := range beside(lo, hi) {
		list = append(list, span(n, n), span(n, hi), span(lo, n))
	}
	return list
}

// changes are ways to change a settle that begins as S; each one alone is enough to make it invalid.
func changes() []func(s *api.Settle) {
	list := []func(s *api.Settle){
		func(s *api.Settle) { s.Blocks = nil },
		func(s *api.Settle) { s.Blocks = []api.SettleBlock{} },
		func(s *api.Settle) { s.Blocks, s.Touches = nil, nil },
		func(s *api.Settle) { s.Blocks = slices.Repeat(s.Blocks[:1], 5) },
		func(s *api.Settle) { s.Blocks = slices.Repeat(s.Blocks[:1], 100000) },
		func(s *api.Settle) { s.Touches = slices.Repeat(s.Touches, 7) },
		func(s *api.Settle) { s.Touches = slices.Repeat(s.Touches, 100000) },
		// There no longer is a block that is touched, or a minute.
		func(s *api.Settle) { s.Blocks = s.Blocks[:1] },
		func(s *api.Settle) { s.Last = 3 },
	}
	for at := range 2 {
		for _, x := range badSpans(-100, 100) {
			list = append(list, func(s *api.Settle) { s.Blocks[at].Excess = x })
		}
		for _, x := range badSpans(2, 8) {
			list = append(list, func(s *api.Settle) { s.Blocks[at].Slow = x })
		}
		for _, x := range badSpans(0, 20) {
			list = append(list, func(s *api.Settle) { s.Blocks[at].Grows = x })
		}
	}
	list = append(list, func(s *api.Settle) { s.Blocks[1].Slow = api.Span{} }, func(s *api.Settle) { s.Blocks[0].Slow = span(0, 8) })
	for _, n := range beside(0, 20) {
		list = append(list, func(s *api.Settle) { s.Near = n })
	}
	for _, n := range beside(1, 60) {
		list = append(list, func(s *api.Settle) { s.Last, s.Touches = n, nil }, func(s *api.Settle) { s.Last = n })
	}
	return slices.Concat(list, changesOfTouches())
}

// changesOfTouches are ways to make a touch invalid, the first one or the second one.
func changesOfTouches() []func(s *api.Settle) {
	var touches []api.SettleTouch
	for _, n := range beside(0, 1) {
		touches = append(touches, touch(n, 4, 8, 10))
	}
	for _, n := range beside(0, 12) {
		touches = append(touches, touch(1, n, 8, 10))
	}
	for _, x := range badSpans(-100, 100) {
		touches = append(touches, touch(1, 4, x.Lo, x.Hi))
	}
	var list []func(s *api.Settle)
	for _, bad := range touches {
		list = append(list, func(s *api.Settle) { s.Touches[0] = bad }, func(s *api.Settle) { s.Touches = append(s.Touches, bad) })
	}
	return list
}

// TestInvalid: the section Errors, R1, R2 and R8. A settle that is not valid comes before all other errors, also if it is the other block that is not.
func TestInvalid(t *testing.T) {
	for _, change := range changes() {
		s := settleS()
		change(&s)
		for _, a := range []asked{{0, 0, 0}, {1, 12, 20}, {0, 7, 100}, {-1, -1, -101}, {4, 61, 101}, {math.MinInt, math.MaxInt, math.MinInt}, {math.MaxInt, math.MinInt, math.MaxInt}} {
			for _, c := range calls(a) {
				wantError(t, c, s, api.ErrArg)
			}
		}
	}
}

// TestRange: the section Errors. What is out of range comes before there is none; what a function does not take makes no difference.
func TestRange(t *testing.T) {
	four := made(0, 60, slices.Repeat([]api.SettleBlock{{Excess: exactly(100), Slow: exactly(8)}}, 4))
	never := made(0, 1, []api.SettleBlock{{Excess: exactly(100), Slow: exactly(8)}})
	for _, s := range []api.Settle{settleS(), four, never} {
		for _, block := range append(beside(0, len(s.Blocks)-1), 4, 5) {
			want(t, []string{"Excess", "Longer", "Settled", "When", "Rests", "Wait", "Latest"}, asked{block, 0, 0}, s, api.ErrRange)
		}
		for _, minute := range append(beside(0, s.Last), 61) {
			want(t, []string{"Excess", "Longer", "Settled", "Latest"}, asked{0, minute, 0}, s, api.ErrRange)
		}
		for _, warmth := range beside(-100, 100) {
			want(t, []string{"Wait", "Latest"}, asked{0, 0, warmth}, s, api.ErrRange)
		}
		for _, a := range []asked{{0, 0, -100}, {0, 0, 100}, {len(s.Blocks) - 1, s.Last, 0}} {
			want(t, nil, a, s, api.ErrRange)
		}
	}
}

// TestNone: the section Errors. If a block does not settle there is no minute; but it rests in none, and how long it would have to wait is told.
func TestNone(t *testing.T) {
	never := made(0, 1, []api.SettleBlock{{Excess: exactly(100), Slow: exactly(8)}})
	want(t, []string{"When", "All", "Latest"}, asked{0, 1, 100}, never, api.ErrNone)
	same(t, "Rests", row(settle.Rests(never, 0)), these())
	same(t, "Wait", two(settle.Wait(never, 0, 100)), number(24))
	other := made(0, 1, []api.SettleBlock{{Excess: exactly(100), Slow: exactly(8)}, {Slow: exactly(2)}})
	want(t, []string{"All"}, asked{1, 1, 0}, other, api.ErrNone)
}

// TestLimits: R7. What just keeps to each limit is valid.
func TestLimits(t *testing.T) {
	six := slices.Repeat([]api.SettleTouch{touch(0, 60, -100, 100), touch(3, 0, 100, 100)}, 3)
	for _, excess := range []api.Span{span(-100, 100), exactly(-100), exactly(100)} {
		for _, slow := range []api.Span{span(2, 8), exactly(2), exactly(8)} {
			for _, grows := range []api.Span{span(0, 20), exactly(0), exactly(20)} {
				b := api.SettleBlock{Excess: excess, Slow: slow, Grows: grows}
				for _, many := range []int{1, 4} {
					blocks := slices.Repeat([]api.SettleBlock{b}, many)
					for _, near := range []int{0, 20} {
						compareAll(t, made(near, 1, blocks), 0)
						compareAll(t, made(near, 60, blocks), many-1)
					}
				}
			}
		}
	}
	compareAll(t, made(20, 60, slices.Repeat([]api.SettleBlock{{Slow: span(2, 8)}}, 4), six...), 3)
	same(t, "the limits", []int{api.SettleBlocks, api.SettleExcess, api.SettleSlow, api.SettleGrows, api.SettleNear, api.SettleLast, api.SettleTouches, api.SettleTen}, []int{4, 100, 8, 20, 20, 60, 6, 10})
}

// compareAll fails unless what is told of a block is as the model tells it, in the first minutes and in the last one.
func compareAll(t *testing.T, s api.Settle, block int) {
	t.Helper()
	m := modelOf(s)
	for _, minute := range []int{0, 1, s.Last} {
		same(t, "Excess", two(settle.Excess(s, block, minute)), two(m.excess(block, minute), api.OK))
		same(t, "Longer", two(settle.Longer(s, block, minute)), two(m.longer(block, minute), api.OK))
		same(t, "Settled", two(settle.Settled(s, block, minute)), number(m.settled(block, minute)))
	}
	same(t, "When", two(settle.When(s, block)), m.when(block))
	same(t, "All", two(settle.All(s)), m.all())
	same(t, "Rests", row(settle.Rests(s, block)), these(m.rests(block)...))
	for _, x := range []int{-100, 100} {
		same(t, "Wait", two(settle.Wait(s, block, x)), m.wait(block, x))
		same(t, "Latest", two(settle.Latest(s, block, x, 1)), m.latest(block, x, 1))
	}
	if t.Failed() {
		t.Fatalf("the settle is %v, and the block %d", s, block)
	}
}

// TestNilAndEmpty: R3. No touches are the same, however they are written, and so are no blocks.
func TestNilAndEmpty(t *testing.T) {
	for _, blocks := range []int{0, 2} {
		a, b := settleS(), settleS()
		a.Blocks, b.Blocks = slices.Clip(a.Blocks[:blocks]), b.Blocks[:blocks]
		if blocks == 0 {
			a.Blocks = nil
		}
		a.Touches, b.Touches = nil, []api.SettleTouch{}
		for i, c := range calls(asked{1, 9, 4}) {
			same(t, c.name, calls(asked{1, 9, 4})[i].do(b), c.do(a))
		}
	}
}

// TestMemory: R4. No argument is changed, also behind its end, and no result shares memory with another one.
func TestMemory(t *testing.T) {
	s := settleS()
	s.Touches = append(s.Touches, touch(0, 2, 5, 6), touch(1, 1, -3, -2), touch(0, 0, 1, 1))
	s.Blocks = append(s.Blocks, api.SettleBlock{Excess: span(3, 9), Slow: exactly(5), Grows: exactly(1)}, s.Blocks[0])
	before := clone(s)
	for many := range len(s.Touches) + 1 {
		v := s
		v.Touches, v.Blocks = s.Touches[:many], s.Blocks[:2+many%3]
		for _, c := range calls(asked{1, 12, 40}) {
			c.do(v)
		}
	}
	same(t, "the settle", s, before)
	first, _ := settle.Rests(settleS(), 1)
	second, _ := settle.Rests(settleS(), 1)
	clear(first[:cap(first)])
	same(t, "the second result", row(second, api.OK), these(span(1, 3), span(6, 12)))
	same(t, "the third result", row(settle.Rests(settleS(), 1)), these(span(1, 3), span(6, 12)))
}
