package fringe_test

import (
	"math"
	"reflect"
	"slices"
	"testing"

	"blockworks/api"
	"blockworks/fringe"
)

// fringeF and fringeN are the fringes of the chapter's examples.
func fringeF() api.Fringe {
	return api.Fringe{
		Waves:  []int{12, 20, 17},
		Length: span(100, 200),
		Reads:  []api.FringeRead{read(0, 10, 13), read(1, 5, 8)},
	}
}

func fringeN() api.Fringe {
	f := fringeF()
	f.Reads = append(f.Reads, read(0, 0, 2))
	return f
}

// oneWave is a fringe of one colour.
func oneWave(wave, lo, hi int, reads ...api.FringeRead) api.Fringe {
	return api.Fringe{Waves: []int{wave}, Length: span(lo, hi), Reads: reads}
}

// same fails unless what a call returned is what is wanted. Nil and empty lists are the same value (R3).
func same(t *testing.T, call string, got, want any) {
	t.Helper()
	if g, w := reflect.ValueOf(got), reflect.ValueOf(want); g.Kind() == reflect.Slice && g.Len() == 0 && w.Len() == 0 {
		return
	}
	if !reflect.DeepEqual(got, want) {
		t.Errorf("%s: got %v, want %v", call, got, want)
	}
}

// pair and triple put the results of a call into one value.
func pair[A any](a A, e api.Errno) [2]any           { return [2]any{a, e} }
func triple[A, B any](a A, b B, e api.Errno) [3]any { return [3]any{a, b, e} }

// lists returns a list and an error as they are compared here: an empty list is nil.
func lists[T any](l []T, e api.Errno) [2]any {
	if len(l) == 0 {
		l = nil
	}
	return [2]any{l, e}
}

func TestExamples(t *testing.T) {
	f, n := fringeF(), fringeN()
	same(t, "Part F 126 0", triple(fringe.Part(f, 126, 0)), triple(10, 10, api.OK))
	same(t, "Part F 128 2", triple(fringe.Part(f, 128, 2)), triple(7, 10, api.OK))
	same(t, "Part F 0 1", triple(fringe.Part(f, 0, 1)), triple(0, 0, api.OK))
	same(t, "Lengths F", lists(fringe.Lengths(f)), lists([]api.Span{span(126, 128), span(186, 188)}, api.OK))
	same(t, "Count F", pair(fringe.Count(f)), pair(6, api.OK))
	same(t, "Count N", pair(fringe.Count(n)), pair(0, api.OK))
	for _, x := range [][2]int{{150, 128}, {157, 128}, {158, 186}, {2000, 188}} {
		same(t, "Near F", pair(fringe.Near(f, x[0])), pair(x[1], api.OK))
	}
	same(t, "Whole F 0", lists(fringe.Whole(f, 0)), lists([]int{10, 15}, api.OK))
	same(t, "Whole F 1", lists(fringe.Whole(f, 1)), lists([]int{6, 9}, api.OK))
	same(t, "Parts F 0", pair(fringe.Parts(f, 0)), pair(1<<10|1<<11|1<<13, api.OK))
	same(t, "Parts F 1", pair(fringe.Parts(f, 1)), pair(1<<6|1<<7|1<<8, api.OK))
	same(t, "Period F", pair(fringe.Period(f)), pair(1020, api.OK))
	same(t, "Ask F", triple(fringe.Ask(f)), triple(2, 1, api.OK))
	same(t, "Wrong N", triple(fringe.Wrong(n)), triple(1, 1, api.OK))
	same(t, "Wrong F", triple(fringe.Wrong(f)), triple(0, 0, api.OK))
	same(t, "Clash N", pair(fringe.Clash(n)), pair(5, api.OK))
	same(t, "Clash F", pair(fringe.Clash(f)), pair(0, api.ErrNone))
	same(t, "Lengths N", lists(fringe.Lengths(n)), lists([]api.Span(nil), api.ErrClash))
}

// TestPart: P1.1. The quotient of each division is rounded down, and neither readings nor Length are looked at.
func TestPart(t *testing.T) {
	for _, x := range []struct {
		wave, length, whole, part int
	}{
		{12, 11, 0, 18}, {12, 12, 1, 0}, {12, 13, 1, 1}, {12, 2000, 166, 13},
		{60, 59, 0, 19}, {60, 60, 1, 0}, {60, 62, 1, 0}, {60, 63, 1, 1}, {60, 2000, 33, 6},
		{2, 0, 0, 0}, {2, 1, 0, 10}, {2, 2000, 1000, 0}, {3, 1, 0, 6}, {3, 2, 0, 13}, {7, 13, 1, 17},
		{20, 1999, 99, 19}, {59, 58, 0, 19},
	} {
		f := oneWave(x.wave, 5, 5, read(0, 3, 3), read(0, 4, 4))
		same(t, "Part", triple(fringe.Part(f, x.length, 0)), triple(x.whole, x.part, api.OK))
	}
	for wave := 2; wave <= 60; wave++ {
		for length := 0; length <= 2000; length += 1 + wave%3 {
			whole, part := modelPart(length, wave)
			same(t, "Part", triple(fringe.Part(oneWave(wave, 0, 0), length, 0)), triple(whole, part, api.OK))
		}
	}
}

// TestLengths: P1.2. Spans are as few as can be, and a Part goes round modulo 20.
func TestLengths(t *testing.T) {
	for _, x := range []struct {
		f     api.Fringe
		spans []api.Span
		many  int
	}{
		{oneWave(2, 0, 3), []api.Span{span(0, 3)}, 4},
		{oneWave(2, 0, 3, read(0, 10, 10)), []api.Span{span(1, 1), span(3, 3)}, 2},
		{oneWave(2, 0, 3, read(0, 0, 10)), []api.Span{span(0, 3)}, 4},
		{oneWave(20, 0, 45, read(0, 18, 21)), []api.Span{span(0, 1), span(18, 21), span(38, 41)}, 10},
		{oneWave(20, 0, 45, read(0, 19, 19)), []api.Span{span(19, 19), span(39, 39)}, 2},
		{oneWave(20, 0, 25, read(0, 19, 20)), []api.Span{span(0, 0), span(19, 20)}, 3},
		{oneWave(20, 0, 25, read(0, 19, 38)), []api.Span{span(0, 25)}, 26},
		{oneWave(20, 0, 25, read(0, 5, 23)), []api.Span{span(0, 3), span(5, 23), span(25, 25)}, 24},
		{oneWave(20, 2000, 2000, read(0, 0, 19)), []api.Span{span(2000, 2000)}, 1},
		{oneWave(60, 1600, 2000), []api.Span{span(1600, 2000)}, 401},
	} {
		same(t, "Lengths", lists(fringe.Lengths(x.f)), lists(x.spans, api.OK))
		same(t, "Count", pair(fringe.Count(x.f)), pair(x.many, api.OK))
	}
}

// TestNear: P1.3. Of two lengths that differ as little the lesser one is returned.
func TestNear(t *testing.T) {
	for _, x := range []struct {
		f            api.Fringe
		wish, length int
	}{
		{fringeF(), 0, 126}, {fringeF(), 126, 126}, {fringeF(), 127, 127}, {fringeF(), 187, 187}, {fringeF(), 189, 188},
		{oneWave(20, 0, 45, read(0, 5, 5)), 15, 5}, {oneWave(20, 0, 45, read(0, 5, 5)), 16, 25},
		{oneWave(20, 0, 45, read(0, 5, 5)), 35, 25}, {oneWave(20, 0, 45, read(0, 5, 5)), 2000, 45},
		{oneWave(20, 7, 7), 0, 7}, {oneWave(20, 0, 0), 2000, 0},
	} {
		same(t, "Near", pair(fringe.Near(x.f, x.wish)), pair(x.length, api.OK))
	}
}

// TestWholeAndParts: P1.4. Whole fringes come once each and in order, parts as a set.
func TestWholeAndParts(t *testing.T) {
	for _, x := range []struct {
		f      api.Fringe
		wholes []int
		parts  int
	}{
		{oneWave(2, 0, 3), []int{0, 1}, 1 | 1<<10},
		{oneWave(20, 0, 45, read(0, 18, 21)), []int{0, 1, 2}, 1 | 1<<1 | 1<<18 | 1<<19},
		{oneWave(20, 19, 60, read(0, 19, 19)), []int{0, 1, 2}, 1 << 19},
		{oneWave(60, 1950, 1951), []int{32}, 1 << 10},
		{oneWave(20, 0, 19), []int{0}, 1<<20 - 1},
	} {
		same(t, "Whole", lists(fringe.Whole(x.f, 0)), lists(x.wholes, api.OK))
		same(t, "Parts", pair(fringe.Parts(x.f, 0)), pair(x.parts, api.OK))
	}
}

// TestPeriod: P1.5. Waves that share divisors are alike again sooner than their product tells.
func TestPeriod(t *testing.T) {
	for _, x := range []struct {
		waves  []int
		period int
	}{
		{[]int{2}, 2}, {[]int{60}, 60}, {[]int{6, 10, 15}, 30}, {[]int{12, 12, 12, 12}, 12}, {[]int{4, 2}, 4},
		{[]int{2, 4}, 4}, {[]int{7, 11}, 77}, {[]int{60, 59, 53, 47}, 8818140}, {[]int{59, 58, 57, 55}, 10727970},
	} {
		f := api.Fringe{Waves: x.waves, Length: span(0, 9), Reads: []api.FringeRead{read(0, 19, 19), read(0, 1, 1)}}
		same(t, "Period", pair(fringe.Period(f)), pair(x.period, api.OK))
	}
}

// TestAsk: P1.6. The worst part of each colour counts, and of equal colours the first one is told.
func TestAsk(t *testing.T) {
	for _, x := range []struct {
		waves        []int
		length       api.Span
		reads        []api.FringeRead
		colour, left int
	}{
		{[]int{20}, span(0, 45), []api.FringeRead{read(0, 18, 21)}, 0, 3},
		{[]int{20}, span(2000, 2000), nil, 0, 1},
		{[]int{17, 17}, span(0, 40), nil, 0, 3},
		{[]int{2, 19, 18, 19}, span(0, 18), nil, 1, 1},
		{[]int{60, 40}, span(0, 40), nil, 0, 3},
		{[]int{60, 40}, span(0, 39), nil, 1, 2},
		{[]int{10, 20}, span(0, 30), []api.FringeRead{read(1, 5, 5)}, 0, 2},
		{[]int{10, 20, 11}, span(0, 30), []api.FringeRead{read(1, 5, 5)}, 2, 1},
	} {
		f := api.Fringe{Waves: x.waves, Length: x.length, Reads: x.reads}
		same(t, "Ask", triple(fringe.Ask(f)), triple(x.colour, x.left, api.OK))
	}
}

// TestWrongAndClash: P1.7 and P1.8. Fewer readings come before a lesser number, and a lesser number before a greater one.
func TestWrongAndClash(t *testing.T) {
	for _, x := range []struct {
		f                  api.Fringe
		many, wrong, clash int
	}{
		{oneWave(20, 0, 45, read(0, 0, 0), read(0, 5, 5)), 1, 1, 3},
		{oneWave(20, 3, 3, read(0, 0, 0)), 1, 1, 1},
		{oneWave(20, 3, 3, read(0, 3, 3), read(0, 0, 0)), 1, 2, 2},
		{oneWave(20, 0, 45, read(0, 0, 0), read(0, 1, 1), read(0, 1, 1)), 1, 1, 3},
		{oneWave(20, 0, 45, read(0, 1, 1), read(0, 1, 1), read(0, 0, 0)), 1, 4, 5},
		{oneWave(20, 0, 45, read(0, 1, 1), read(0, 2, 2), read(0, 3, 3)), 2, 3, 3},
		{oneWave(20, 0, 45, read(0, 0, 1), read(0, 1, 2), read(0, 2, 20)), 1, 1, 7},
		{oneWave(20, 0, 9, read(0, 3, 3), read(0, 4, 4), read(0, 15, 15)), 2, 5, 4},
		{oneWave(20, 3, 3, read(0, 0, 0), read(0, 1, 1), read(0, 2, 2), read(0, 4, 4), read(0, 5, 5), read(0, 6, 6)), 6, 63, 1},
		{oneWave(20, 3, 3, read(0, 3, 3), read(0, 3, 4), read(0, 2, 3), read(0, 3, 5), read(0, 0, 19), read(0, 6, 6)), 1, 32, 32},
	} {
		same(t, "Wrong", triple(fringe.Wrong(x.f)), triple(x.many, x.wrong, api.OK))
		same(t, "Clash", pair(fringe.Clash(x.f)), pair(x.clash, api.OK))
	}
	for _, f := range []api.Fringe{oneWave(20, 3, 3), oneWave(20, 3, 3, read(0, 3, 3)), oneWave(20, 0, 20, read(0, 19, 20), read(0, 0, 5))} {
		same(t, "Wrong", triple(fringe.Wrong(f)), triple(0, 0, api.OK))
		same(t, "Clash", pair(fringe.Clash(f)), pair(0, api.ErrNone))
	}
}

// call is one call of a function of the package, as the list of all its results.
type call struct {
	name string
	do   func(f api.Fringe) []any
}

// calls returns a call of each function, with the given length and colour where it takes one.
func calls(length, colour int) []call {
	list := func(results ...any) []any { return results }
	return []call{
		{"Part", func(f api.Fringe) []any { a, b, e := fringe.Part(f, length, colour); return list(a, b, e) }},
		{"Lengths", func(f api.Fringe) []any { a, e := fringe.Lengths(f); return list(len(a), e) }},
		{"Count", func(f api.Fringe) []any { a, e := fringe.Count(f); return list(a, e) }},
		{"Near", func(f api.Fringe) []any { a, e := fringe.Near(f, length); return list(a, e) }},
		{"Whole", func(f api.Fringe) []any { a, e := fringe.Whole(f, colour); return list(len(a), e) }},
		{"Parts", func(f api.Fringe) []any { a, e := fringe.Parts(f, colour); return list(a, e) }},
		{"Period", func(f api.Fringe) []any { a, e := fringe.Period(f); return list(a, e) }},
		{"Ask", func(f api.Fringe) []any { a, b, e := fringe.Ask(f); return list(a, b, e) }},
		{"Wrong", func(f api.Fringe) []any { a, b, e := fringe.Wrong(f); return list(a, b, e) }},
		{"Clash", func(f api.Fringe) []any { a, e := fringe.Clash(f); return list(a, e) }},
	}
}

// wantError fails unless a call returns the error, and zero values beside it (R2).
func wantError(t *testing.T, c call, f api.Fringe, e api.Errno) {
	t.Helper()
	results := c.do(f)
	for _, r := range results[:len(results)-1] {
		if r != 0 {
			t.Errorf("%s of %v: result %v beside an error", c.name, f, r)
		}
	}
	if got := results[len(results)-1]; got != e {
		t.Errorf("%s of %v: error %v, want %v", c.name, f, got, e)
	}
}

// changes are ways to change the fringe F; each one alone is enough to make it invalid.
func changes() []func(f *api.Fringe) {
	list := []func(f *api.Fringe){
		func(f *api.Fringe) { f.Waves, f.Reads = nil, nil },
		func(f *api.Fringe) { f.Waves, f.Reads = []int{}, nil },
		func(f *api.Fringe) { f.Waves = []int{2, 3, 4, 5, 6} },
		func(f *api.Fringe) { f.Waves = []int{12} },
		func(f *api.Fringe) { f.Reads = make([]api.FringeRead, 7) },
		func(f *api.Fringe) { f.Reads = make([]api.FringeRead, 100000) },
	}
	for _, w := range []int{math.MinInt, -2, -1, 0, 1, 61, math.MaxInt} {
		for i := range 3 {
			list = append(list, func(f *api.Fringe) { f.Waves[i] = w })
		}
	}
	for _, s := range []api.Span{
		span(-1, 5), span(6, 5), span(1900, 2001), span(100, 501), span(0, 401), span(1599, 2000), span(2001, 2001),
		span(math.MinInt, math.MaxInt), span(math.MaxInt, math.MinInt), span(math.MinInt, 0), span(0, math.MaxInt), span(-5, -5),
	} {
		list = append(list, func(f *api.Fringe) { f.Length = s })
	}
	for _, c := range []int{math.MinInt, -1, 3, math.MaxInt} {
		for i := range 2 {
			list = append(list, func(f *api.Fringe) { f.Reads[i].Colour = c })
		}
	}
	for _, p := range []api.Span{
		span(-1, 3), span(-20, -20), span(20, 20), span(5, 4), span(5, 25), span(0, 20), span(19, 39),
		span(math.MinInt, math.MaxInt), span(math.MaxInt, math.MinInt), span(0, math.MaxInt), span(19, math.MinInt), span(math.MaxInt, math.MaxInt),
	} {
		for i := range 2 {
			list = append(list, func(f *api.Fringe) { f.Reads[i].Part = p })
		}
	}
	return list
}

// TestInvalid: the section Errors, R1 and R2, and P1. A fringe that is not valid comes before all other errors.
func TestInvalid(t *testing.T) {
	for _, change := range changes() {
		for _, clashing := range []bool{false, true} {
			f := fringeF()
			if clashing {
				f = fringeN()
			}
			change(&f)
			for _, c := range slices.Concat(calls(126, 0), calls(-1, -1), calls(math.MaxInt, math.MinInt)) {
				wantError(t, c, f, api.ErrArg)
			}
		}
	}
}

// TestRange: the section Errors. A length or a colour that is none comes before a clash.
func TestRange(t *testing.T) {
	for _, f := range []api.Fringe{fringeF(), fringeN()} {
		for _, length := range []int{math.MinInt, -1, 2001, math.MaxInt} {
			for _, c := range calls(length, 0) {
				if c.name == "Part" || c.name == "Near" {
					wantError(t, c, f, api.ErrRange)
				}
			}
		}
		for _, colour := range []int{math.MinInt, -1, 3, 4, math.MaxInt} {
			for _, c := range calls(126, colour) {
				if c.name == "Part" || c.name == "Whole" || c.name == "Parts" {
					wantError(t, c, f, api.ErrRange)
				}
			}
		}
	}
}

// TestClashError: the section Errors. Without a truth Lengths, Whole, Parts, Near and Ask alone return ErrClash.
func TestClashError(t *testing.T) {
	clashes := []string{"Lengths", "Whole", "Parts", "Near", "Ask"}
	for _, c := range calls(126, 0) {
		if slices.Contains(clashes, c.name) {
			wantError(t, c, fringeN(), api.ErrClash)
		} else if results := c.do(fringeN()); results[len(results)-1] != api.OK {
			t.Errorf("%s of N: %v", c.name, results)
		}
	}
}

// TestLimits: R7. What just keeps to each limit is valid.
func TestLimits(t *testing.T) {
	six := []api.FringeRead{read(0, 0, 19), read(1, 19, 38), read(2, 0, 19), read(3, 7, 26), read(0, 19, 38), read(3, 0, 19)}
	for _, f := range []api.Fringe{
		{Waves: []int{2, 60, 2, 60}, Length: span(0, 400), Reads: six},
		{Waves: []int{60, 59, 58, 57}, Length: span(1600, 2000), Reads: six},
		{Waves: []int{2}, Length: span(0, 0)},
		{Waves: []int{60}, Length: span(2000, 2000), Reads: []api.FringeRead{}},
	} {
		for _, length := range []int{0, 2000} {
			for _, c := range calls(length, len(f.Waves)-1) {
				results := c.do(f)
				want := api.OK
				if c.name == "Clash" {
					want = api.ErrNone
				}
				if results[len(results)-1] != want {
					t.Errorf("%s of %v: %v", c.name, f, results)
				}
			}
		}
		same(t, "Count", pair(fringe.Count(f)), pair(f.Length.Hi-f.Length.Lo+1, api.OK))
	}
}

// TestNilAndEmpty: R3. A nil list of readings is an empty one.
func TestNilAndEmpty(t *testing.T) {
	without, empty := oneWave(20, 3, 50), oneWave(20, 3, 50)
	without.Reads, empty.Reads = nil, []api.FringeRead{}
	for _, c := range calls(30, 0) {
		same(t, c.name, c.do(without), c.do(empty))
	}
}

// TestMemory: R4. No argument is changed, also behind its end, and no two results share memory.
func TestMemory(t *testing.T) {
	waves := []int{12, 20, 17, 99}
	reads := append(fringeN().Reads, read(7, 7, 7))
	for n := range 4 {
		f := api.Fringe{Waves: waves[:3], Length: span(100, 200), Reads: reads[:n]}
		for _, c := range calls(126, 0) {
			c.do(f)
		}
	}
	same(t, "waves", waves, []int{12, 20, 17, 99})
	same(t, "reads", reads, append(fringeN().Reads, read(7, 7, 7)))

	first, _ := fringe.Lengths(fringeF())
	first[0] = span(0, 0)
	same(t, "Lengths", lists(fringe.Lengths(fringeF())), lists([]api.Span{span(126, 128), span(186, 188)}, api.OK))
	wholes, _ := fringe.Whole(fringeF(), 0)
	wholes[0] = 99
	same(t, "Whole", lists(fringe.Whole(fringeF(), 0)), lists([]int{10, 15}, api.OK))
}
