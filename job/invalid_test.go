package job_test

import (
	"math"
	"reflect"
	"slices"
	"testing"

	"blockworks/api"
	"blockworks/job"
)

// call is one call of a function of the package, as the list of all its results.
type call struct {
	name string
	do   func(j api.Job) []any
}

// calls returns a call of each function, Check with a plan.
func calls(plan []int) []call {
	list := func(results ...any) []any { return results }
	return []call{
		{"Check", func(j api.Job) []any { want, rule, e := job.Check(j, plan); return list(want, rule, e) }},
		{"Plan", func(j api.Job) []any { plan, e := job.Plan(j); return list(plan, e) }},
		{"Alone", func(j api.Job) []any { wants, e := job.Alone(j); return list(wants, e) }},
		{"Most", func(j api.Job) []any { many, wants, e := job.Most(j); return list(many, wants, e) }},
		{"Why", func(j api.Job) []any { wants, e := job.Why(j); return list(wants, e) }},
		{"Rounds", func(j api.Job) []any { rounds, e := job.Rounds(j); return list(rounds, e) }},
		{"Lend", func(j api.Job) []any { blocks, e := job.Lend(j); return list(blocks, e) }},
	}
}

func errorOf(results []any) any { return results[len(results)-1] }

func isZero(result any) bool {
	if l, isList := result.([]int); isList {
		return len(l) == 0
	}
	return reflect.ValueOf(result).IsZero()
}

// wantError fails unless a call returns the error, and zero values beside it (R2).
func wantError(t *testing.T, do call, j api.Job, e api.Errno) {
	t.Helper()
	results := do.do(j)
	for _, result := range results[:len(results)-1] {
		if !isZero(result) {
			t.Errorf("%s of %v: result %v beside an error", do.name, j, result)
		}
	}
	if errorOf(results) != e {
		t.Errorf("%s of %v: error %v, want %v", do.name, j, errorOf(results), e)
	}
}

// want fails unless the functions of some names return the error, and the other ones do not.
func want(t *testing.T, names []string, plan []int, j api.Job, e api.Errno) {
	t.Helper()
	for _, do := range calls(plan) {
		if slices.Contains(names, do.name) {
			wantError(t, do, j, e)
		} else if got := errorOf(do.do(j)); got == e {
			t.Errorf("%s of %v, with the plan %v: error %v", do.name, j, plan, got)
		}
	}
}

// strange are spans that are never valid, whichever limits they have to keep to.
func strange(more ...api.Span) []api.Span {
	return append(more,
		span(1, 0), span(3, 2), span(0, -1), span(-1, 0), span(-1, -1), span(-1, 5), span(math.MinInt, math.MaxInt), span(math.MaxInt, math.MinInt), span(math.MinInt, 0), span(0, math.MaxInt),
		span(math.MinInt, math.MinInt), span(math.MaxInt, math.MaxInt), span(0, math.MinInt), span(math.MaxInt, 0), span(math.MinInt, 3), span(3, math.MaxInt),
	)
}

// changes are ways to change the job K; each one alone is enough to make it invalid.
func changes() []func(j *api.Job) {
	repeat := func(n, many int) []api.Span { return slices.Repeat(spans(n, n), many) }
	list := []func(j *api.Job){
		func(j *api.Job) { j.Stack.Blocks = repeat(10, 9) },
		func(j *api.Job) { j.Stack.Blocks = repeat(10, 64) },
		func(j *api.Job) { j.Stack.Blocks = repeat(10, 100000) },
		func(j *api.Job) { j.Stack.Blocks = make([]api.Span, 1) },
		func(j *api.Job) { j.Stack.Blocks, j.Wants = make([]api.Span, 9), nil },
		func(j *api.Job) { j.Wants = repeat(10, 5) },
		func(j *api.Job) { j.Wants = append(j.Wants, j.Wants...) },
		func(j *api.Job) { j.Wants = repeat(10, 100000) },
		func(j *api.Job) { j.Stack, j.Wants = api.Stack{}, repeat(10, 5) },
	}
	for _, s := range strange(span(5, 6), span(6, 6), span(0, 6)) {
		list = append(list, func(j *api.Job) { j.Stack.Film = s }, func(j *api.Job) { j.Stack.Film, j.Wants = s, nil }, func(j *api.Job) { j.Stack = api.Stack{Film: s} }, func(j *api.Job) { *j = api.Job{Stack: api.Stack{Film: s}} })
	}
	for _, s := range strange(span(0, 0), span(0, 6), span(500, 501), span(501, 501), span(1, 8), span(10, 17), span(493, 500)) {
		for i := range 4 {
			list = append(list, func(j *api.Job) { j.Stack.Blocks[i] = s })
		}
		list = append(list, func(j *api.Job) { j.Stack.Blocks[3], j.Wants = s, nil })
	}
	for _, s := range strange(span(5000, 5001), span(5001, 5001), span(0, 5001), span(5000, 4999), span(36, 31)) {
		for i := range 3 {
			list = append(list, func(j *api.Job) { j.Wants[i] = s })
		}
		list = append(list, func(j *api.Job) { j.Wants = append(j.Wants, s) }, func(j *api.Job) { j.Wants = []api.Span{s} }, func(j *api.Job) { j.Stack, j.Wants = api.Stack{}, []api.Span{s} })
	}
	return list
}

// TestInvalid: the section Errors, R1, R2 and R8. A job that is not valid comes before all other errors, whichever part of it is not.
func TestInvalid(t *testing.T) {
	for _, change := range changes() {
		j := jobK()
		change(&j)
		if isValid(j) {
			t.Fatalf("%v is valid", j)
		}
		for _, plan := range [][]int{nil, ints(1), ints(8, 4, 1), ints(8, 4, 5), ints(4, 4, 4), ints(0, -1, 16), ints(math.MinInt, math.MaxInt), make([]int, len(j.Wants))} {
			for _, do := range calls(plan) {
				wantError(t, do, j, api.ErrArg)
			}
		}
	}
}

// TestRange: the section Errors. What is no plan is out of range, also if a want breaks a rule, or none can be met; no other function takes one.
func TestRange(t *testing.T) {
	full := jobOf(ones().Stack, 0, 5000, 0, 5000, 0, 5000, 0, 5000)
	for _, j := range []api.Job{jobJ(), jobK(), jobL(), full, jobOf(api.Stack{}, 0, 5000), jobOf(setS()), {}} {
		fine := slices.Repeat(ints(1), len(j.Wants))
		if len(j.Stack.Blocks) > 0 {
			want(t, nil, fine, j, api.ErrRange)
		}
		for _, plan := range [][]int{append(slices.Clone(fine), 1), append(slices.Clone(fine), 0), make([]int, 1000)} {
			want(t, []string{"Check"}, plan, j, api.ErrRange)
		}
		for at := range fine {
			want(t, []string{"Check"}, fine[:at], j, api.ErrRange)
			for _, n := range ints(math.MinInt, -1<<32, -100, -2, -1, 0, 1<<len(j.Stack.Blocks), 1<<len(j.Stack.Blocks)+1, 256, 511, 1<<32, math.MaxInt) {
				plan := slices.Clone(fine)
				plan[at] = n
				want(t, []string{"Check"}, plan, j, api.ErrRange)
			}
		}
	}
}

// TestNone: the section Errors. A plan that is right breaks no rule, and if all wants can be met there is none because of which they cannot; otherwise there is no plan, and without rounds that are enough there are none.
func TestNone(t *testing.T) {
	want(t, []string{"Check", "Why"}, ints(8, 4), jobJ(), api.ErrNone)
	want(t, []string{"Why"}, ints(5, 4), jobJ(), api.ErrNone)
	want(t, []string{"Why"}, ints(5), jobJ(), api.ErrNone)
	want(t, []string{"Plan", "Lend"}, ints(8, 4, 1), jobK(), api.ErrNone)
	want(t, []string{"Plan", "Rounds", "Lend"}, ints(8, 4, 1), jobL(), api.ErrNone)
	want(t, []string{"Check", "Why"}, nil, api.Job{}, api.ErrNone)
	want(t, []string{"Check", "Why"}, nil, jobOf(setS()), api.ErrNone)
	want(t, []string{"Plan", "Rounds", "Lend"}, nil, jobOf(api.Stack{}, 0, 5000), api.ErrNone)
}

// TestLimits: R7. What just keeps to each limit is valid.
func TestLimits(t *testing.T) {
	for _, b := range spans(1, 1, 1, 7, 494, 500, 500, 500) {
		for _, film := range spans(0, 0, 0, 5, 5, 5) {
			for _, many := range ints(0, 1, 8) {
				for _, w := range spans(0, 0, 0, 5000, 5000, 5000, 1, 7, 490, 1010) {
					for _, wants := range ints(0, 1, 4) {
						j := api.Job{Stack: api.Stack{Blocks: slices.Repeat([]api.Span{b}, many), Film: film}, Wants: slices.Repeat([]api.Span{w}, wants)}
						if !isValid(j) {
							t.Fatalf("%v is not valid", j)
						}
						want(t, nil, slices.Repeat(ints(1<<many-1), wants), j, api.ErrArg)
					}
				}
			}
		}
	}
	same(t, "the limits", ints(api.StackBlocks, api.StackLength, api.StackWide, api.StackFilm, api.StackWant, api.JobWants), ints(8, 500, 6, 5, 5000, 4))
}

// TestNilAndEmpty: R3. No blocks, no wants and no plan are the same, however they are written.
func TestNilAndEmpty(t *testing.T) {
	for _, j := range []api.Job{{}, jobJ()} {
		for _, x := range []func(j *api.Job, list []api.Span){
			func(j *api.Job, list []api.Span) { j.Stack.Blocks = list },
			func(j *api.Job, list []api.Span) { j.Wants = list },
			func(j *api.Job, list []api.Span) { j.Stack.Blocks, j.Wants = list, list },
		} {
			a, b := j, j
			x(&a, nil)
			x(&b, []api.Span{})
			for i, do := range calls(nil) {
				other := calls(ints())[i]
				same(t, do.name, do.do(b), do.do(a))
				same(t, do.name, other.do(a), do.do(a))
				same(t, do.name, other.do(b), do.do(a))
			}
		}
	}
}

// TestMemory: P12.8 and R4. No argument is changed, also behind its end, and a result is memory of its own.
func TestMemory(t *testing.T) {
	stack, wants, plan := alikeButOne(), spans(2, 2, 1, 1, 5, 6, 0, 5000, 1, 1, 7, 7), ints(3, 4, 240, 8, 0, 99)
	blocksBefore, wantsBefore, planBefore := slices.Clone(stack.Blocks), slices.Clone(wants), slices.Clone(plan)
	for blocks := range 9 {
		for many := range 5 {
			j := api.Job{Stack: api.Stack{Blocks: stack.Blocks[:blocks], Film: stack.Film}, Wants: wants[:many]}
			for _, do := range calls(plan[:many]) {
				first, kept := do.do(j), do.do(j)
				if l, isList := first[0].([]int); isList {
					spoil(l[:cap(l)])
				}
				same(t, do.name, do.do(j), kept)
			}
		}
	}
	same(t, "the blocks", stack.Blocks, blocksBefore)
	same(t, "the wants", wants, wantsBefore)
	same(t, "the plan", plan, planBefore)
}

// spoil overwrites a list.
func spoil(l []int) {
	for i := range l {
		l[i] = -7
	}
}

// alikeButOne returns eight blocks, of which the last one is longer, in a list that goes on behind its end.
func alikeButOne() api.Stack {
	return api.Stack{Blocks: spans(1, 1, 1, 1, 1, 1, 1, 1, 1, 1, 1, 1, 1, 1, 2, 3, 9, 9, 9, 9)[:8]}
}

// TestAny: P1 and R1. Whatever numbers are given, each call ends, and returns ErrArg just if the job is not valid, and then Check ErrRange just if the list is no plan; no other function returns that.
func TestAny(t *testing.T) {
	c := chance(20)
	odd := func(fine int) int {
		if c.below(20) > 0 {
			return fine
		}
		return c.one(math.MinInt, math.MinInt+1, -5001, -1, 0, 1, 5, 6, 7, 8, 15, 16, 255, 256, 499, 500, 501, 4999, 5000, 5001, math.MaxInt-1, math.MaxInt)
	}
	seen := map[api.Errno]int{}
	for range cases * 10 {
		j := c.job(c.set(0, 6), c.below(5))
		plan := make([]int, len(j.Wants))
		for i := range plan {
			plan[i] = odd(c.between(1, max(1, 1<<len(j.Stack.Blocks)-1)))
		}
		for i, b := range j.Stack.Blocks {
			j.Stack.Blocks[i] = span(odd(b.Lo), odd(b.Hi))
		}
		for i, w := range j.Wants {
			j.Wants[i] = span(odd(w.Lo), odd(w.Hi))
		}
		j.Stack.Film = span(odd(j.Stack.Film.Lo), odd(j.Stack.Film.Hi))
		isRange := !model{Job: j}.isPlan(plan)
		for _, do := range calls(plan) {
			e := errorOf(do.do(j)).(api.Errno)
			seen[e]++
			if (e == api.ErrArg) != !isValid(j) || isValid(j) && (e == api.ErrRange) != (isRange && do.name == "Check") {
				t.Fatalf("%s of %v, with the plan %v: error %v", do.name, j, plan, e)
			}
		}
	}
	for _, e := range []api.Errno{api.OK, api.ErrArg, api.ErrRange, api.ErrNone} {
		if seen[e] < cases/4 {
			t.Errorf("the error %v was returned %d times alone", e, seen[e])
		}
	}
}
