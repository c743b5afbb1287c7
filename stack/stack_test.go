package stack_test

import (
	"math"
	"reflect"
	"slices"
	"testing"

	"blockworks/api"
	"blockworks/stack"
)

// setS is the set of blocks of the chapter's examples.
func setS() api.Stack { return setOf(span(1, 2), 10, 10, 12, 13, 20, 20, 31, 32) }

// setOf returns a set of blocks of which the ends stand one after the other.
func setOf(film api.Span, ends ...int) api.Stack {
	s := api.Stack{Film: film}
	for e := range slices.Chunk(ends, 2) {
		s.Blocks = append(s.Blocks, span(e[0], e[1]))
	}
	return s
}

// exact returns a set of blocks that are known exactly.
func exact(film int, blocks ...int) api.Stack {
	s := api.Stack{Film: span(film, film)}
	for _, n := range blocks {
		s.Blocks = append(s.Blocks, span(n, n))
	}
	return s
}

// same fails unless what a call returned is what is wanted.
func same(t *testing.T, call string, got, want any) {
	t.Helper()
	if !reflect.DeepEqual(got, want) {
		t.Errorf("%s: got %v, want %v", call, got, want)
	}
}

// two and three put the results of a call into one value.
func two[A any](a A, e api.Errno) [2]any { return [2]any{a, e} }
func three(a, b int, e api.Errno) [3]any { return [3]any{a, b, e} }

func long(lo, hi int) [2]any  { return two(span(lo, hi), api.OK) }
func number(n int) [2]any     { return two(n, api.OK) }
func numbers(a, b int) [3]any { return three(a, b, api.OK) }
func none() [2]any            { return two(0, api.ErrNone) }
func nones() [3]any           { return three(0, 0, api.ErrNone) }

func TestExamples(t *testing.T) {
	s := setS()
	same(t, "Long 0", two(stack.Long(s, 1)), long(10, 10))
	same(t, "Long 0 1", two(stack.Long(s, 3)), long(23, 25))
	same(t, "Long of all", two(stack.Long(s, 15)), long(76, 81))
	same(t, "Long 0 3", two(stack.Long(s, 9)), long(42, 44))
	same(t, "Right 23..25", two(stack.Right(s, 3, span(23, 25))), number(api.StackAlways))
	same(t, "Right 24..25", two(stack.Right(s, 3, span(24, 25))), number(api.StackPerhaps))
	same(t, "Right 26..27", two(stack.Right(s, 3, span(26, 27))), number(api.StackNever))
	same(t, "Fewest 31..36", two(stack.Fewest(s, span(31, 36))), number(8))
	same(t, "Fewest 42..45", two(stack.Fewest(s, span(42, 45))), number(9))
	same(t, "Fewest 50..51", two(stack.Fewest(s, span(50, 51))), none())
	same(t, "Count 42..45", three(stack.Count(s, span(42, 45))), numbers(1, 3))
	same(t, "Count 31..36", three(stack.Count(s, span(31, 36))), numbers(3, 3))
	same(t, "Needed 42..45", three(stack.Needed(s, span(42, 45))), numbers(9, 9))
	same(t, "Needed 31..36", three(stack.Needed(s, span(31, 36))), numbers(0, 15))
	same(t, "Nearest 21", three(stack.Nearest(s, 21)), numbers(4, 1))
	same(t, "Nearest 26", three(stack.Nearest(s, 26)), numbers(3, 3))
	same(t, "Nearest 100", three(stack.Nearest(s, 100)), numbers(15, 24))
	same(t, "Gap 10 to 21", two(stack.Gap(s, 10, 21, 2)), number(15))
	same(t, "Gap 31 to 36", two(stack.Gap(s, 31, 36, 3)), none())
}

// eight returns eight blocks that are alike.
func eight(film api.Span, lo, hi int) api.Stack {
	s := api.Stack{Film: film}
	for range 8 {
		s.Blocks = append(s.Blocks, span(lo, hi))
	}
	return s
}

// unsure returns two blocks that are known exactly, and a film that is not.
func unsure() api.Stack { return setOf(span(0, 1), 10, 10, 10, 10) }

// TestLong: P4.1. There is a film less than there are blocks.
func TestLong(t *testing.T) {
	for _, x := range []struct {
		s      api.Stack
		blocks int
		lo, hi int
	}{
		{exact(0, 500), 1, 500, 500}, {exact(5, 1), 1, 1, 1}, {setOf(span(0, 5), 1, 7), 1, 1, 7}, {setOf(span(5, 5), 1, 7), 1, 1, 7},
		{exact(5, 10, 20, 30), 1, 10, 10}, {exact(5, 10, 20, 30), 4, 30, 30}, {exact(5, 10, 20, 30), 3, 35, 35}, {exact(5, 10, 20, 30), 5, 45, 45},
		{exact(5, 10, 20, 30), 6, 55, 55}, {exact(5, 10, 20, 30), 7, 70, 70}, {setOf(span(0, 5), 10, 16, 20, 20), 3, 30, 41},
		{setOf(span(2, 3), 1, 2, 10, 12, 100, 106), 5, 103, 111}, {setOf(span(2, 3), 1, 2, 10, 12, 100, 106), 6, 112, 121}, {setOf(span(2, 3), 1, 2, 10, 12, 100, 106), 7, 115, 126},
		{eight(span(0, 5), 494, 500), 128, 494, 500}, {eight(span(0, 5), 494, 500), 129, 988, 1005}, {eight(span(0, 5), 494, 500), 255, 3952, 4035},
		{eight(span(0, 0), 1, 1), 255, 8, 8}, {eight(span(0, 0), 1, 1), 254, 7, 7},
	} {
		same(t, "Long", two(stack.Long(x.s, x.blocks)), long(x.lo, x.hi))
	}
}

// TestRight: P4.2. Of 31 to 34 both ends are looked at, from both sides.
func TestRight(t *testing.T) {
	s := setOf(span(1, 2), 10, 12, 20, 20)
	for _, x := range []struct{ blocks, lo, hi, right int }{
		{3, 31, 34, api.StackAlways}, {3, 30, 34, api.StackAlways}, {3, 31, 35, api.StackAlways}, {3, 0, 5000, api.StackAlways},
		{3, 32, 34, api.StackPerhaps}, {3, 31, 33, api.StackPerhaps}, {3, 32, 33, api.StackPerhaps}, {3, 34, 34, api.StackPerhaps}, {3, 31, 31, api.StackPerhaps},
		{3, 34, 5000, api.StackPerhaps}, {3, 0, 31, api.StackPerhaps}, {3, 33, 90, api.StackPerhaps}, {3, 0, 33, api.StackPerhaps},
		{3, 35, 40, api.StackNever}, {3, 0, 30, api.StackNever}, {3, 35, 35, api.StackNever}, {3, 30, 30, api.StackNever}, {3, 35, 5000, api.StackNever}, {3, 0, 0, api.StackNever}, {3, 5000, 5000, api.StackNever},
		{2, 20, 20, api.StackAlways}, {2, 20, 21, api.StackAlways}, {2, 19, 20, api.StackAlways}, {2, 19, 19, api.StackNever}, {2, 21, 21, api.StackNever},
		{1, 10, 12, api.StackAlways}, {1, 11, 11, api.StackPerhaps}, {1, 0, 9, api.StackNever}, {1, 13, 5000, api.StackNever},
	} {
		same(t, "Right", two(stack.Right(s, x.blocks, span(x.lo, x.hi))), number(x.right))
	}
	same(t, "the numbers", []int{api.StackNever, api.StackPerhaps, api.StackAlways}, []int{0, 1, 2})
}

// TestFewest: P4.3. Fewer blocks come before a lesser number, and a lesser number before a greater one.
func TestFewest(t *testing.T) {
	for _, x := range []struct {
		s            api.Stack
		lo, hi, best int
	}{
		{exact(0, 10, 20, 30), 30, 30, 4}, {exact(0, 30, 10, 20), 30, 30, 1}, {exact(0, 10, 30, 20), 30, 30, 2}, {exact(0, 10, 20, 30, 60), 60, 60, 8},
		{exact(0, 10, 10, 10), 10, 10, 1}, {exact(0, 10, 10, 10), 20, 20, 3}, {exact(0, 10, 10, 10), 30, 30, 7},
		{exact(0, 1, 2, 3, 4), 5, 5, 6}, {exact(0, 4, 2, 3, 1), 5, 5, 6}, {exact(0, 1, 4, 2, 3), 5, 5, 3}, {exact(1, 1, 2, 3, 4), 5, 5, 5}, {exact(1, 1, 2, 3, 4), 6, 6, 6},
		// A stack that is nearer to the middle of what is wanted is no better.
		{exact(0, 10, 15), 10, 20, 1}, {exact(0, 20, 15), 10, 20, 1}, {exact(0, 7, 8, 10), 10, 20, 4}, {exact(0, 10, 21), 11, 30, 2},
		// What is right in some truth alone is not surely right.
		{setOf(span(0, 0), 10, 12, 11, 11), 10, 11, 2}, {setOf(span(0, 0), 10, 12, 11, 11), 11, 12, 2}, {unsure(), 20, 21, 3}, {unsure(), 10, 20, 1},
		{setOf(span(0, 0), 20, 21, 10, 10, 10, 10), 20, 20, 6},
		{eight(span(0, 0), 1, 1), 8, 8, 255}, {eight(span(0, 0), 1, 1), 4, 8, 15}, {eight(span(0, 0), 1, 1), 0, 5000, 1}, {eight(span(5, 5), 500, 500), 4035, 5000, 255},
	} {
		same(t, "Fewest", two(stack.Fewest(x.s, span(x.lo, x.hi))), number(x.best))
	}
	for _, x := range []struct {
		s      api.Stack
		lo, hi int
	}{
		{api.Stack{}, 0, 5000}, {exact(0, 10, 10, 10), 11, 19}, {exact(0, 10), 0, 9}, {exact(0, 10), 11, 5000}, {exact(0, 10), 0, 0}, {exact(1, 10, 10), 20, 20},
		{unsure(), 20, 20}, {unsure(), 21, 21}, {setOf(span(0, 0), 10, 16), 10, 15}, {setOf(span(0, 0), 10, 16), 11, 16}, {eight(span(5, 5), 500, 500), 4036, 5000},
	} {
		same(t, "Fewest", two(stack.Fewest(x.s, span(x.lo, x.hi))), none())
	}
}

// TestCount: P4.4. What is surely right is right in some truth, too.
func TestCount(t *testing.T) {
	for _, x := range []struct {
		s                       api.Stack
		lo, hi, surely, perhaps int
	}{
		{api.Stack{}, 0, 5000, 0, 0}, {setS(), 0, 5000, 15, 15}, {setS(), 24, 25, 0, 1}, {setS(), 50, 51, 0, 0}, {setS(), 0, 9, 0, 0},
		{eight(span(0, 0), 1, 1), 0, 5000, 255, 255}, {eight(span(0, 0), 1, 1), 1, 1, 8, 8}, {eight(span(0, 0), 1, 1), 4, 4, 70, 70}, {eight(span(0, 0), 1, 1), 2, 3, 84, 84}, {eight(span(0, 0), 1, 1), 9, 9, 0, 0},
		{eight(span(5, 5), 500, 500), 4035, 5000, 1, 1}, {eight(span(0, 5), 494, 500), 4035, 4035, 0, 1}, {eight(span(0, 5), 494, 500), 3952, 4035, 1, 1},
		{unsure(), 20, 20, 0, 1}, {unsure(), 21, 21, 0, 1}, {unsure(), 20, 21, 1, 1}, {unsure(), 10, 20, 2, 3}, {unsure(), 10, 21, 3, 3}, {unsure(), 11, 19, 0, 0},
	} {
		same(t, "Count", three(stack.Count(x.s, span(x.lo, x.hi))), numbers(x.surely, x.perhaps))
	}
}

// TestNeeded: P4.5. All stacks that are surely right are looked at, however many blocks they have.
func TestNeeded(t *testing.T) {
	four := exact(0, 1, 2, 3, 4)
	for _, x := range []struct {
		s                  api.Stack
		lo, hi, each, some int
	}{
		{four, 5, 5, 0, 15}, {four, 6, 6, 2, 15}, {four, 7, 7, 8, 15}, {four, 8, 8, 13, 13}, {four, 9, 9, 14, 14}, {four, 10, 10, 15, 15}, {four, 1, 1, 1, 1}, {four, 3, 3, 0, 7},
		{exact(0, 3, 3, 50), 3, 3, 0, 3}, {exact(0, 3, 3, 50), 53, 53, 4, 7}, {exact(0, 3, 3, 50), 56, 5000, 7, 7},
		{setOf(span(0, 0), 10, 12, 11, 11), 10, 11, 2, 2}, {unsure(), 10, 20, 0, 3}, {eight(span(0, 0), 1, 1), 0, 5000, 0, 255}, {eight(span(0, 0), 1, 1), 8, 8, 255, 255},
	} {
		same(t, "Needed", three(stack.Needed(x.s, span(x.lo, x.hi))), numbers(x.each, x.some))
	}
	for _, x := range []struct {
		s      api.Stack
		lo, hi int
	}{{api.Stack{}, 0, 5000}, {four, 11, 11}, {four, 0, 0}, {unsure(), 20, 20}, {unsure(), 11, 19}, {setS(), 50, 51}} {
		same(t, "Needed", three(stack.Needed(x.s, span(x.lo, x.hi))), nones())
	}
}

// TestNearest: P4.6. Less off comes before fewer blocks, and these before a lesser number.
func TestNearest(t *testing.T) {
	ladder := exact(0, 10, 20, 30)
	for _, x := range []struct {
		s                 api.Stack
		length, best, off int
	}{
		{ladder, 30, 4, 0}, {ladder, 35, 4, 5}, {ladder, 45, 5, 5}, {ladder, 0, 1, 10}, {ladder, 15, 1, 5}, {ladder, 25, 2, 5}, {ladder, 60, 7, 0}, {ladder, 5000, 7, 4940}, {ladder, 36, 5, 4},
		{exact(0, 30, 20, 10), 15, 2, 5}, {exact(0, 30, 20, 10), 45, 3, 5}, {exact(0, 10, 10, 10), 20, 3, 0}, {exact(0, 10, 10, 20), 30, 5, 0},
		{setOf(span(0, 0), 8, 14, 5, 5), 11, 1, 3}, {setOf(span(0, 0), 8, 14, 5, 5), 12, 1, 4}, {setOf(span(0, 0), 8, 14, 5, 5), 10, 1, 4},
		// A length that surely is a little off is nearer than one that perhaps is right.
		{setOf(span(0, 0), 7, 13, 14, 14), 10, 1, 3}, {setOf(span(0, 0), 7, 13, 14, 14), 11, 2, 3}, {setOf(span(0, 0), 7, 13, 6, 6), 9, 2, 3},
		{setOf(span(0, 5), 10, 10), 12, 1, 2}, {exact(1, 1, 2), 4, 3, 0}, {setOf(span(0, 5), 4, 4, 4, 4), 9, 3, 4}, {eight(span(5, 5), 500, 500), 5000, 255, 965}, {eight(span(0, 0), 1, 1), 0, 1, 1},
	} {
		same(t, "Nearest", three(stack.Nearest(x.s, x.length)), numbers(x.best, x.off))
	}
	for _, length := range []int{0, 1, 5000} {
		same(t, "Nearest", three(stack.Nearest(api.Stack{}, length)), nones())
	}
}

// TestGap: P4.7. Both ends of the range are lengths of it, and what is off by no more than off is none that cannot be made.
func TestGap(t *testing.T) {
	tens, wide := exact(0, 10, 20), setOf(span(0, 0), 10, 14)
	for _, x := range []struct {
		s                  api.Stack
		from, to, off, gap int
	}{
		{api.Stack{}, 0, 0, 0, 0}, {api.Stack{}, 17, 77, 5000, 17}, {api.Stack{}, 5000, 5000, 5000, 5000}, {api.Stack{}, 0, 60, 0, 0},
		{exact(0, 10), 9, 10, 0, 9}, {exact(0, 10), 10, 11, 0, 11}, {exact(0, 10), 4, 15, 5, 4}, {exact(0, 10), 5, 16, 5, 16}, {exact(0, 10), 8, 68, 3, 14}, {exact(0, 10), 5000, 5000, 4989, 5000}, {exact(0, 10), 0, 0, 9, 0},
		{tens, 10, 30, 4, 15}, {tens, 16, 25, 4, 25}, {tens, 10, 70, 39, 70}, {tens, 0, 60, 0, 0}, {tens, 30, 90, 59, 90},
		{wide, 12, 12, 1, 12}, {wide, 11, 13, 2, 11}, {wide, 12, 13, 2, 13}, {wide, 10, 14, 0, 10},
	} {
		same(t, "Gap", two(stack.Gap(x.s, x.from, x.to, x.off)), number(x.gap))
	}
	for _, x := range []struct {
		s             api.Stack
		from, to, off int
	}{
		{exact(0, 10), 10, 10, 0}, {exact(0, 10), 5, 15, 5}, {exact(0, 10), 0, 60, 50}, {exact(0, 10), 5000, 5000, 4990}, {exact(0, 10), 4940, 5000, 5000}, {exact(0, 10), 0, 0, 10},
		{tens, 10, 30, 5}, {tens, 16, 24, 4}, {tens, 10, 70, 40}, {wide, 12, 12, 2}, {wide, 11, 13, 3},
	} {
		same(t, "Gap", two(stack.Gap(x.s, x.from, x.to, x.off)), none())
	}
}

// with is what functions take beside a set of blocks.
type with struct {
	blocks        int
	want          api.Span
	length        int
	from, to, off int
}

// proper returns what is valid beside each set that has a block.
func proper() with { return with{1, span(0, 5000), 20, 10, 21, 2} }

// call is one call of a function of the package, as the list of all its results.
type call struct {
	name string
	do   func(s api.Stack) []any
}

func calls(x with) []call {
	list := func(results ...any) []any { return results }
	return []call{
		{"Long", func(s api.Stack) []any { l, e := stack.Long(s, x.blocks); return list(l, e) }},
		{"Right", func(s api.Stack) []any { n, e := stack.Right(s, x.blocks, x.want); return list(n, e) }},
		{"Fewest", func(s api.Stack) []any { b, e := stack.Fewest(s, x.want); return list(b, e) }},
		{"Count", func(s api.Stack) []any { n, p, e := stack.Count(s, x.want); return list(n, p, e) }},
		{"Needed", func(s api.Stack) []any { a, b, e := stack.Needed(s, x.want); return list(a, b, e) }},
		{"Nearest", func(s api.Stack) []any { b, off, e := stack.Nearest(s, x.length); return list(b, off, e) }},
		{"Gap", func(s api.Stack) []any { l, e := stack.Gap(s, x.from, x.to, x.off); return list(l, e) }},
	}
}

func errorOf(results []any) any { return results[len(results)-1] }

// wantError fails unless a call returns the error, and zero values beside it (R2).
func wantError(t *testing.T, c call, s api.Stack, e api.Errno) {
	t.Helper()
	results := c.do(s)
	for _, r := range results[:len(results)-1] {
		if !reflect.ValueOf(r).IsZero() {
			t.Errorf("%s of %v: result %v beside an error", c.name, s, r)
		}
	}
	if errorOf(results) != e {
		t.Errorf("%s of %v: error %v, want %v", c.name, s, errorOf(results), e)
	}
}

// strange are spans that are never valid where numbers are small, whichever of them they have to keep to.
func strange(more ...api.Span) []api.Span {
	return append(more,
		span(1, 0), span(3, 2), span(0, -1), span(-1, 0), span(-1, -1), span(math.MinInt, math.MaxInt), span(math.MaxInt, math.MinInt), span(math.MinInt, 0), span(0, math.MaxInt),
		span(math.MinInt, math.MinInt), span(math.MaxInt, math.MaxInt), span(0, math.MinInt), span(math.MaxInt, 0), span(math.MinInt, 3), span(3, math.MaxInt),
	)
}

// changes are ways to change the set S; each one alone is enough to make it invalid.
func changes() []func(s *api.Stack) {
	list := []func(s *api.Stack){
		func(s *api.Stack) { s.Blocks = append(eight(s.Film, 10, 10).Blocks, span(10, 10)) },
		func(s *api.Stack) { s.Blocks = make([]api.Span, 1) },
		func(s *api.Stack) { s.Blocks = make([]api.Span, 8) },
		func(s *api.Stack) { s.Blocks = make([]api.Span, 9) },
		func(s *api.Stack) { s.Blocks = slices.Repeat([]api.Span{span(10, 10)}, 64) },
		func(s *api.Stack) { s.Blocks = slices.Repeat([]api.Span{span(10, 10)}, 100000) },
	}
	for _, f := range strange(span(5, 6), span(6, 6), span(0, 6), span(-1, 5)) {
		list = append(list, func(s *api.Stack) { s.Film = f }, func(s *api.Stack) { s.Film, s.Blocks = f, nil }, func(s *api.Stack) { s.Film, s.Blocks = f, s.Blocks[:1] })
	}
	for i := range 4 {
		for _, b := range strange(span(0, 0), span(0, 1), span(0, 6), span(500, 501), span(501, 501), span(495, 501), span(1, 8), span(10, 17), span(493, 500), span(1, 500)) {
			list = append(list, func(s *api.Stack) { s.Blocks[i] = b })
		}
	}
	return list
}

// TestInvalid: the section Errors, R1, R2 and P1. A set that is not valid comes before all other errors.
func TestInvalid(t *testing.T) {
	all := slices.Concat(
		calls(proper()), calls(with{}), calls(with{-1, span(1, 0), -1, 1, 0, -1}), calls(with{16, span(0, 5001), 5001, 0, 61, 5001}),
		calls(with{math.MinInt, span(math.MaxInt, math.MinInt), math.MinInt, math.MinInt, math.MaxInt, math.MinInt}),
	)
	for _, change := range changes() {
		s := setS()
		change(&s)
		for _, c := range all {
			wantError(t, c, s, api.ErrArg)
		}
	}
}

// wantRange fails unless a function returns ErrRange of sets of several kinds: without blocks, of which each length and each want leads to ErrNone, and with some, one, and all that there can be.
func wantRange(t *testing.T, name string, x with) {
	t.Helper()
	for _, s := range []api.Stack{{}, setS(), exact(0, 1), eight(span(0, 5), 494, 500)} {
		for _, c := range calls(x) {
			if c.name == name {
				wantError(t, c, s, api.ErrRange)
			}
		}
	}
}

// TestRange: the section Errors. What is out of range comes before ErrNone.
func TestRange(t *testing.T) {
	for _, blocks := range []int{math.MinInt, -256, -1, 0, 256, 257, 1 << 9, 1 << 31, 1 << 32, math.MaxInt} {
		x := proper()
		x.blocks = blocks
		wantRange(t, "Long", x)
		wantRange(t, "Right", x)
	}
	for _, want := range strange(span(0, 5001), span(5000, 5001), span(5001, 5001), span(-1, 5000), span(5000, 4999)) {
		x := proper()
		x.want = want
		for _, name := range []string{"Right", "Fewest", "Count", "Needed"} {
			wantRange(t, name, x)
		}
	}
	for _, n := range []int{math.MinInt, -1, 5001, math.MaxInt} {
		length, from, to, both, off := proper(), proper(), proper(), proper(), proper()
		length.length, from.from, to.to, off.off = n, n, n, n
		both.from, both.to = n, n
		wantRange(t, "Nearest", length)
		for _, x := range []with{from, to, both, off} {
			wantRange(t, "Gap", x)
		}
	}
	for _, ends := range [][2]int{{1, 0}, {21, 20}, {5000, 0}, {5000, 4999}, {0, 61}, {20, 81}, {4939, 5000}, {0, 5000}, {-1, 59}, {-1, 60}, {4941, 5001}, {4940, 5001}, {math.MinInt, math.MaxInt}, {math.MaxInt, math.MinInt}, {0, math.MinInt}, {math.MaxInt, 5000}} {
		x := proper()
		x.from, x.to = ends[0], ends[1]
		wantRange(t, "Gap", x)
	}
	// Each set has its own stacks, not all that there could be.
	for blocks := range 9 {
		s := eight(span(0, 0), 10, 10)
		s.Blocks = s.Blocks[:blocks]
		x := proper()
		x.blocks = 1 << blocks
		for _, c := range calls(x)[:2] {
			wantError(t, c, s, api.ErrRange)
		}
		if x.blocks--; blocks > 0 {
			same(t, "Long", two(stack.Long(s, x.blocks)), long(10*blocks, 10*blocks))
		}
	}
}

// TestUnused: the section Errors. What a function does not take is not looked at; without blocks all but the count and the gap lead to an error.
func TestUnused(t *testing.T) {
	for _, c := range calls(proper())[2:] {
		switch c.name {
		case "Count":
			same(t, c.name, c.do(api.Stack{}), []any{0, 0, api.OK})
		case "Gap":
			same(t, c.name, c.do(api.Stack{}), []any{10, api.OK})
		default:
			wantError(t, c, api.Stack{}, api.ErrNone)
		}
	}
}

// TestLimits: R7. What just keeps to each limit is valid.
func TestLimits(t *testing.T) {
	last := with{255, span(5000, 5000), 5000, 4940, 5000, 5000}
	first := with{1, span(0, 0), 0, 0, 60, 0}
	whole := with{128, span(0, 5000), 5000, 5000, 5000, 0}
	for _, s := range []api.Stack{eight(span(0, 5), 494, 500), eight(span(5, 5), 1, 7), eight(span(0, 0), 500, 500), eight(span(3, 4), 1, 1)} {
		for _, c := range slices.Concat(calls(last), calls(first), calls(whole)) {
			if e := errorOf(c.do(s)); e != api.OK && e != api.ErrNone {
				t.Errorf("%s of %v: error %v", c.name, s, e)
			}
		}
		for _, c := range calls(whole) {
			if results := c.do(s); errorOf(results) != api.OK {
				t.Errorf("%s of %v: %v", c.name, s, results)
			}
		}
	}
}

// TestNilAndEmpty: R3. A nil list of blocks is an empty one.
func TestNilAndEmpty(t *testing.T) {
	for _, x := range []with{proper(), {1, span(1, 0), -1, 1, 0, -1}} {
		for _, c := range calls(x) {
			same(t, c.name, c.do(api.Stack{Blocks: nil, Film: span(1, 2)}), c.do(api.Stack{Blocks: []api.Span{}, Film: span(1, 2)}))
		}
	}
}

// TestMemory: P4.8 and R4. No argument is changed, also behind its end.
func TestMemory(t *testing.T) {
	blocks := append(setS().Blocks, span(7, 7), span(8, 8))
	for n := range 5 {
		s := api.Stack{Blocks: blocks[:n], Film: span(1, 2)}
		for _, x := range []with{proper(), {15, span(31, 36), 26, 31, 36, 3}} {
			for _, c := range calls(x) {
				c.do(s)
			}
		}
		same(t, "the set", s, api.Stack{Blocks: setS().Blocks[:n], Film: span(1, 2)})
	}
	same(t, "blocks", blocks, append(setS().Blocks, span(7, 7), span(8, 8)))
}
