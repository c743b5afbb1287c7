package colour_test

import (
	"math"
	"reflect"
	"slices"
	"testing"

	"blockworks/api"
	"blockworks/colour"
)

// asked is what functions are asked beside a colour: the number of one, a set, and two lengths.
type asked struct{ colour, set, a, b int }

// call is one call of a function of the package, as the list of all its results.
type call struct {
	name string
	do   func(c api.Colour) []any
}

func calls(q asked) []call {
	list := func(results ...any) []any { return results }
	return []call{
		{"Apart", func(c api.Colour) []any { n, e := colour.Apart(c, q.colour, q.a, q.b); return list(n, e) }},
		{"Parts", func(c api.Colour) []any { is, e := colour.Parts(c, q.set, q.a, q.b); return list(is, e) }},
		{"Alike", func(c api.Colour) []any { a, b, e := colour.Alike(c, q.set); return list(a, b, e) }},
		{"Pairs", func(c api.Colour) []any { n, m, e := colour.Pairs(c, q.set); return list(n, m, e) }},
		{"Reach", func(c api.Colour) []any { n, e := colour.Reach(c, q.set); return list(n, e) }},
		{"Fewest", func(c api.Colour) []any { n, s, e := colour.Fewest(c); return list(n, s, e) }},
		{"Cheapest", func(c api.Colour) []any { n, s, e := colour.Cheapest(c); return list(n, s, e) }},
		{"Spare", func(c api.Colour) []any { s, e := colour.Spare(c, q.set); return list(s, e) }},
		{"Next", func(c api.Colour) []any { n, m, e := colour.Next(c, q.set); return list(n, m, e) }},
	}
}

// withSet are the functions that take a set.
func withSet() []string { return []string{"Parts", "Alike", "Pairs", "Reach", "Spare", "Next"} }

func errorOf(results []any) any { return results[len(results)-1] }

// wantError fails unless a call returns the error, and zero values beside it (R2).
func wantError(t *testing.T, do call, c api.Colour, e api.Errno) {
	t.Helper()
	results := do.do(c)
	for _, result := range results[:len(results)-1] {
		if !reflect.ValueOf(result).IsZero() {
			t.Errorf("%s of %v: result %v beside an error", do.name, c, result)
		}
	}
	if errorOf(results) != e {
		t.Errorf("%s of %v: error %v, want %v", do.name, c, errorOf(results), e)
	}
}

// want fails unless the functions of some names return the error, and the other ones do not.
func want(t *testing.T, names []string, q asked, c api.Colour, e api.Errno) {
	t.Helper()
	for _, do := range calls(q) {
		if slices.Contains(names, do.name) {
			wantError(t, do, c, e)
		} else if got := errorOf(do.do(c)); got == e {
			t.Errorf("%s of %v, asked %v: error %v", do.name, c, q, got)
		}
	}
}

// beside are numbers just beside a span, and far from it.
func beside(lo, hi int) []int {
	return []int{math.MinInt, lo - 100, lo - 2, lo - 1, hi + 1, hi + 2, hi + 100, math.MaxInt}
}

// changes are ways to change the colour C; each one alone is enough to make it invalid.
func changes() []func(c *api.Colour) {
	list := []func(c *api.Colour){
		func(c *api.Colour) { *c = api.Colour{} },
		func(c *api.Colour) { c.Waves, c.Prices = nil, nil },
		func(c *api.Colour) { c.Waves, c.Prices = []int{}, []int{} },
		func(c *api.Colour) { c.Waves = nil },
		func(c *api.Colour) { c.Prices = nil },
		func(c *api.Colour) { c.Waves = c.Waves[:2] },
		func(c *api.Colour) { c.Prices = c.Prices[:2] },
		func(c *api.Colour) { c.Waves = append(c.Waves, 20) },
		func(c *api.Colour) { c.Prices = append(c.Prices, 0) },
		func(c *api.Colour) { c.Waves, c.Prices = slices.Repeat(ints(20), 7), slices.Repeat(ints(1), 7) },
		func(c *api.Colour) { c.Waves, c.Prices = slices.Repeat(ints(20), 70), slices.Repeat(ints(1), 70) },
		func(c *api.Colour) { c.Waves, c.Prices = make([]int, 100000), make([]int, 100000) },
		func(c *api.Colour) { c.Waves, c.Prices = ints(1), ints(1) },
	}
	for at := range 3 {
		for _, n := range beside(2, 60) {
			list = append(list, func(c *api.Colour) { c.Waves[at] = n })
		}
		for _, n := range beside(0, 50) {
			list = append(list, func(c *api.Colour) { c.Prices[at] = n })
		}
	}
	for _, n := range beside(1, 20) {
		list = append(list, func(c *api.Colour) { c.Every = n })
	}
	for _, n := range beside(0, 4) {
		list = append(list, func(c *api.Colour) { c.Error = n })
	}
	for _, s := range badLengths() {
		list = append(list, func(c *api.Colour) { c.Length = s })
	}
	return list
}

// badLengths are spans that no lengths can be from.
func badLengths() []api.Span {
	list := []api.Span{{Lo: 101, Hi: 100}, {Lo: 2000, Hi: 0}, {Lo: 100, Hi: 301}, {Lo: 0, Hi: 201}, {Lo: 1799, Hi: 2000}, {Lo: 0, Hi: 2000}, {Lo: -1, Hi: -1}, {Lo: 2001, Hi: 2001}}
	for _, n := range beside(0, 2000) {
		list = append(list, api.Span{Lo: n, Hi: n}, api.Span{Lo: n, Hi: 100}, api.Span{Lo: 1900, Hi: n}, api.Span{Lo: n, Hi: math.MaxInt}, api.Span{Lo: n, Hi: math.MinInt}, api.Span{Lo: math.MinInt, Hi: n}, api.Span{Lo: math.MaxInt, Hi: n})
	}
	return list
}

// TestInvalid: the section Errors, R1, R2 and R8. A colour that is not valid comes before all other errors, whichever part of it is not.
func TestInvalid(t *testing.T) {
	for _, change := range changes() {
		c := colourC()
		change(&c)
		if isValid(c) {
			t.Fatalf("%v is valid", c)
		}
		for _, q := range []asked{{}, {1, 3, 100, 105}, {0, 7, 100, 100}, {-1, -1, -1, -1}, {3, 8, 2001, 2001}, {math.MinInt, math.MaxInt, math.MinInt, math.MaxInt}, {math.MaxInt, math.MinInt, math.MaxInt, math.MinInt}} {
			for _, do := range calls(q) {
				wantError(t, do, c, api.ErrArg)
			}
		}
	}
}

// TestRange: the section Errors. What is out of range comes before there is none, and before it is refused; what a function does not take makes no difference.
func TestRange(t *testing.T) {
	one := made(ints(2), ints(0), 0, 200, 1, 4)
	full := made(slices.Repeat(ints(60), 6), slices.Repeat(ints(50), 6), 1800, 2000, 1, 0)
	for _, c := range []api.Colour{colourC(), one, full} {
		last := len(c.Waves) - 1
		for _, q := range []asked{{}, {last, 1<<last | 1, 2000, 2000}, {last, 2<<last - 1, 0, 2000}, {0, 0, 2000, 0}} {
			want(t, nil, q, c, api.ErrRange)
		}
		for _, n := range append(beside(0, last), 6, 7) {
			want(t, []string{"Apart"}, asked{colour: n}, c, api.ErrRange)
		}
		for _, n := range append(beside(0, 2<<last-1), 4<<last-1, 1<<6, 1<<40, -1<<last) {
			want(t, withSet(), asked{set: n}, c, api.ErrRange)
			// Another error of the same kind makes no difference.
			want(t, append(withSet(), "Apart"), asked{set: n, a: -1}, c, api.ErrRange)
		}
		for _, n := range beside(0, 2000) {
			want(t, []string{"Apart", "Parts"}, asked{a: n}, c, api.ErrRange)
			want(t, []string{"Apart", "Parts"}, asked{b: n}, c, api.ErrRange)
			want(t, []string{"Apart", "Parts"}, asked{a: n, b: n}, c, api.ErrRange)
		}
	}
}

// TestNone: the section Errors. There are no two lengths that are alike if all are parted, no set if none parts all, and no colour if the set has all; what can be told is told.
func TestNone(t *testing.T) {
	c := colourC()
	want(t, []string{"Alike"}, asked{set: 3}, c, api.ErrNone)
	want(t, []string{"Alike", "Next"}, asked{set: 7}, c, api.ErrNone)
	want(t, nil, asked{set: 1}, c, api.ErrNone)
	twins := made(ints(20, 20), ints(1, 1), 0, 20, 1, 0)
	want(t, []string{"Fewest", "Cheapest"}, asked{set: 2}, twins, api.ErrNone)
	want(t, []string{"Fewest", "Cheapest", "Next"}, asked{set: 3}, twins, api.ErrNone)
	alone := made(ints(20, 20), ints(1, 1), 20, 20, 1, 4)
	want(t, []string{"Alike"}, asked{set: 0}, alone, api.ErrNone)
	want(t, []string{"Alike", "Next"}, asked{set: 3}, alone, api.ErrNone)
}

// TestRefused: the section Errors. Nothing can be spared of a set that does not part all.
func TestRefused(t *testing.T) {
	for set, refuses := range []bool{true, true, true, false, true, false, false, false} {
		if refuses {
			want(t, []string{"Spare"}, asked{set: set}, colourC(), api.ErrRefuse)
		} else {
			want(t, nil, asked{set: set}, colourC(), api.ErrRefuse)
		}
		want(t, []string{"Spare"}, asked{set: set}, made(ints(20, 20, 20), ints(1, 1, 1), 0, 20, 20, 0), api.ErrRefuse)
		want(t, nil, asked{set: set}, made(ints(20, 20, 20), ints(1, 1, 1), 0, 19, 20, 0), api.ErrRefuse)
	}
}

// TestLimits: R7. What just keeps to each limit is valid.
func TestLimits(t *testing.T) {
	for _, many := range []int{1, 6} {
		for _, wave := range []int{2, 60} {
			for _, price := range []int{0, 50} {
				for _, s := range []api.Span{{Lo: 0, Hi: 0}, {Lo: 0, Hi: 200}, {Lo: 1800, Hi: 2000}, {Lo: 2000, Hi: 2000}} {
					for _, every := range []int{1, 20} {
						waves := append(ints(20, 60, 2, 59, 37)[:many-1], wave)
						compareAll(t, made(waves, slices.Repeat(ints(price), many), s.Lo, s.Hi, every, 0), 0, 1<<many-1)
						compareAll(t, made(waves, slices.Repeat(ints(price), many), s.Lo, s.Hi, every, 4), 1)
					}
				}
			}
		}
	}
	same(t, "the limits", []int{api.ColourColours, api.FringeWave, api.ColourPrice, api.FringeLength, api.ColourWide, api.ColourEvery, api.ColourError, api.FringeParts}, []int{6, 60, 50, 2000, 200, 20, 4, 20})
}

// compareAll fails unless what is told of a colour and some sets is as the model tells it.
func compareAll(t *testing.T, c api.Colour, sets ...int) {
	t.Helper()
	m := modelOf(c)
	same(t, "Fewest", three(colour.Fewest(c)), m.fewest())
	same(t, "Cheapest", three(colour.Cheapest(c)), m.cheapest())
	for _, set := range sets {
		same(t, "Alike", three(colour.Alike(c, set)), m.firstAlike(set))
		same(t, "Pairs", three(colour.Pairs(c, set)), m.pairs(set))
		same(t, "Reach", two(colour.Reach(c, set)), number(m.reach(set)))
		same(t, "Spare", two(colour.Spare(c, set)), m.spare(set))
		same(t, "Next", three(colour.Next(c, set)), m.next(set))
	}
	if t.Failed() {
		t.Fatalf("the colour is %v, and the sets are %b", c, sets)
	}
}

// TestNilAndEmpty: R3. No waves and no prices are the same, however they are written.
func TestNilAndEmpty(t *testing.T) {
	a, b := colourC(), colourC()
	a.Waves, a.Prices = nil, nil
	b.Waves, b.Prices = []int{}, []int{}
	for i, do := range calls(asked{}) {
		same(t, do.name, calls(asked{})[i].do(b), do.do(a))
	}
}

// TestMemory: R4. No argument is changed, also behind its end.
func TestMemory(t *testing.T) {
	c := made(ints(12, 20, 17, 2, 60, 33), ints(5, 9, 4, 1, 0, 50), 100, 130, 5, 1)
	before := clone(c)
	for many := 1; many <= 6; many++ {
		v := c
		v.Waves, v.Prices = c.Waves[:many], c.Prices[:many]
		for set := range 1 << many {
			for _, do := range calls(asked{many - 1, set, 103, 125}) {
				do.do(v)
			}
		}
	}
	same(t, "the colour", c, before)
}

// TestAny: P1 and R1. Whatever numbers are given, each call ends, and returns ErrArg just if the colour is not valid, and then ErrRange just if another number is out of range.
func TestAny(t *testing.T) {
	c := chance(20)
	odd := func(fine int) int {
		if c.below(12) > 0 {
			return fine
		}
		return c.one(math.MinInt, math.MinInt+1, -2001, -1, 0, 1, 2, 3, 19, 20, 21, 60, 61, 63, 64, 200, 201, 1999, 2000, 2001, math.MaxInt-1, math.MaxInt)
	}
	seen := map[api.Errno]int{}
	for range cases * 10 {
		p := c.colour(20)
		for n := range p.Waves {
			p.Waves[n], p.Prices[n] = odd(p.Waves[n]), odd(p.Prices[n])
		}
		p.Length.Lo, p.Length.Hi, p.Every, p.Error = odd(p.Length.Lo), odd(p.Length.Hi), odd(p.Every), odd(p.Error)
		q := asked{odd(c.below(len(p.Waves))), odd(c.set(p)), odd(c.between(0, 2000)), odd(c.between(0, 2000))}
		isRange := func(name string) bool {
			isLength := func(n int) bool { return n >= 0 && n <= 2000 }
			switch fine := q.set >= 0 && q.set < 1<<len(p.Waves); name {
			case "Apart":
				return q.colour < 0 || q.colour >= len(p.Waves) || !isLength(q.a) || !isLength(q.b)
			case "Parts":
				return !fine || !isLength(q.a) || !isLength(q.b)
			case "Fewest", "Cheapest":
				return false
			default:
				return !fine
			}
		}
		for _, do := range calls(q) {
			e := errorOf(do.do(p)).(api.Errno)
			seen[e]++
			if (e == api.ErrArg) != !isValid(p) || isValid(p) && (e == api.ErrRange) != isRange(do.name) {
				t.Fatalf("%s of %v, asked %v: error %v", do.name, p, q, e)
			}
		}
	}
	for _, e := range []api.Errno{api.OK, api.ErrArg, api.ErrRange, api.ErrNone, api.ErrRefuse} {
		if seen[e] < cases/4 {
			t.Errorf("the error %v was returned %d times alone", e, seen[e])
		}
	}
}
