package job_test

import (
	"math"
	"reflect"
	"slices"
	"testing"

	"blockworks/api"
	"blockworks/job"
)

// setS is the set S of chapter 4.
func setS() api.Stack { return setOf(span(1, 2), 10, 10, 12, 13, 20, 20, 31, 32) }

// The jobs J, K and L are those of the chapter's examples.
func jobJ() api.Job { return jobOf(setS(), 31, 36, 20, 24) }
func jobK() api.Job { return jobOf(setS(), 31, 36, 20, 24, 31, 33) }
func jobL() api.Job { return jobOf(setS(), 31, 36, 20, 24, 50, 51) }

// spans returns the spans of which the ends stand one after the other.
func spans(ends ...int) []api.Span {
	var list []api.Span
	for e := range slices.Chunk(ends, 2) {
		list = append(list, span(e[0], e[1]))
	}
	return list
}

func setOf(film api.Span, ends ...int) api.Stack {
	return api.Stack{Film: film, Blocks: spans(ends...)}
}

func jobOf(s api.Stack, ends ...int) api.Job { return api.Job{Stack: s, Wants: spans(ends...)} }

// exact returns a set of blocks that are known exactly.
func exact(film int, blocks ...int) api.Stack {
	s := api.Stack{Film: span(film, film)}
	for _, n := range blocks {
		s.Blocks = append(s.Blocks, span(n, n))
	}
	return s
}

// exactly returns a job of which each want is one length.
func exactly(s api.Stack, lengths ...int) api.Job {
	j := api.Job{Stack: s}
	for _, n := range lengths {
		j.Wants = append(j.Wants, span(n, n))
	}
	return j
}

// ones returns a job of eight blocks of the length 1, so that a want is how many blocks it takes.
func ones(lengths ...int) api.Job { return exactly(exact(0, 1, 1, 1, 1, 1, 1, 1, 1), lengths...) }

// powers returns a job of four blocks, so that the bits of a want are the blocks that it takes.
func powers(lengths ...int) api.Job { return exactly(exact(0, 1, 2, 4, 8), lengths...) }

// ten and tens return a job of one block of the length 10, and of two.
func ten(lengths ...int) api.Job  { return exactly(exact(0, 10), lengths...) }
func tens(lengths ...int) api.Job { return exactly(exact(0, 10, 10), lengths...) }

// ladder returns a job of the blocks 10, 20 and 30.
func ladder(lengths ...int) api.Job { return exactly(exact(0, 10, 20, 30), lengths...) }

// wide returns a set of which the block 0 is not known exactly, as the block 1 is.
func wide() api.Stack { return setOf(span(0, 0), 10, 12, 11, 11) }

// same fails unless what a call returned is what is wanted.
func same(t *testing.T, call string, got, want any) {
	t.Helper()
	if !reflect.DeepEqual(got, want) {
		t.Errorf("%s: got %v, want %v", call, got, want)
	}
}

// two and three put the results of a call into one value. A nil list and an empty one are the same.
func two[A any](a A, e api.Errno) [2]any {
	if l, isList := any(a).([]int); isList && len(l) == 0 {
		return [2]any{[]int{}, e}
	}
	return [2]any{a, e}
}

func three(a, b int, e api.Errno) [3]any { return [3]any{a, b, e} }

func number(n int) [2]any   { return two(n, api.OK) }
func none() [2]any          { return two(0, api.ErrNone) }
func list(l ...int) [2]any  { return two(l, api.OK) }
func noList() [2]any        { return two(ints(), api.ErrNone) }
func both(a, b int) [3]any  { return three(a, b, api.OK) }
func noTwo() [3]any         { return three(0, 0, api.ErrNone) }
func wrong(want int) [3]any { return both(want, api.JobWrong) }
func twice(want int) [3]any { return both(want, api.JobTwice) }
func noPlan() [3]any        { return three(0, 0, api.ErrRange) }

func TestExamples(t *testing.T) {
	j, k, l := jobJ(), jobK(), jobL()
	same(t, "Check of J, 8 4", three(job.Check(j, ints(8, 4))), noTwo())
	same(t, "Check of J, 5 4", three(job.Check(j, ints(5, 4))), both(1, 2))
	same(t, "Check of J, 4 4", three(job.Check(j, ints(4, 4))), both(0, 1))
	same(t, "Plan of J", two(job.Plan(j)), list(8, 4))
	same(t, "Plan of K", two(job.Plan(k)), noList())
	same(t, "Alone of K", two(job.Alone(k)), number(7))
	same(t, "Alone of L", two(job.Alone(l)), number(3))
	same(t, "Most of J", three(job.Most(j)), both(2, 3))
	same(t, "Most of K", three(job.Most(k)), both(2, 3))
	same(t, "Most of L", three(job.Most(l)), both(2, 3))
	same(t, "Why of K", two(job.Why(k)), number(7))
	same(t, "Why of L", two(job.Why(l)), number(4))
	same(t, "Why of J", two(job.Why(j)), none())
	same(t, "Rounds of J", two(job.Rounds(j)), list(0, 0))
	same(t, "Rounds of K", two(job.Rounds(k)), list(0, 0, 1))
	same(t, "Rounds of L", two(job.Rounds(l)), noList())
	same(t, "Lend of J", two(job.Lend(j)), number(3))
	same(t, "Lend of K", two(job.Lend(k)), none())
}

// TestCheck: P12.1. The first want that breaks a rule comes before the first rule; what perhaps is right is wrong; a list that is no plan comes before both.
func TestCheck(t *testing.T) {
	empty, noBlocks := api.Job{}, jobOf(api.Stack{}, 0, 5000)
	for _, x := range []struct {
		j    api.Job
		plan []int
		is   [3]any
	}{
		{empty, nil, noTwo()}, {empty, ints(), noTwo()}, {jobOf(setS()), nil, noTwo()}, {empty, ints(1), noPlan()}, {jobOf(setS()), ints(1), noPlan()}, {jobOf(setS()), ints(0), noPlan()},
		{jobJ(), ints(5, 2), wrong(1)}, {jobJ(), ints(8, 3), wrong(1)}, {jobJ(), ints(6, 4), twice(1)}, {jobJ(), ints(8, 12), wrong(1)}, {jobJ(), ints(4, 8), wrong(0)},
		// The block 3 is not right for the want 1, and it is in the stack of the want 0, too.
		{jobJ(), ints(8, 8), wrong(1)}, {jobJ(), ints(1, 1), wrong(0)}, {jobJ(), ints(15, 15), wrong(0)},
		{jobK(), ints(8, 4, 8), twice(2)}, {jobK(), ints(8, 4, 5), twice(2)}, {jobK(), ints(5, 4, 1), twice(1)}, {jobK(), ints(8, 4, 1), wrong(2)}, {jobK(), ints(8, 1, 8), wrong(1)}, {jobK(), ints(1, 4, 4), wrong(0)},
		// From 33 to 35 it perhaps is in 31..33.
		{jobK(), ints(8, 4, 6), wrong(2)}, {jobOf(wide(), 10, 11), ints(1), wrong(0)}, {jobOf(wide(), 10, 11), ints(2), noTwo()}, {jobOf(wide(), 11, 12), ints(1), wrong(0)}, {jobOf(wide(), 10, 12), ints(1), noTwo()}, {jobOf(wide(), 13, 20), ints(1), wrong(0)},
		// A want can have a stack in common with any one before it, not only with the one just before it.
		{ones(1, 1, 1, 1), ints(1, 2, 4, 8), noTwo()}, {ones(1, 1, 1, 1), ints(1, 2, 4, 1), twice(3)}, {ones(1, 1, 1, 1), ints(1, 2, 4, 2), twice(3)}, {ones(1, 1, 1, 1), ints(1, 2, 1, 2), twice(2)}, {ones(1, 1, 1, 1), ints(128, 64, 32, 128), twice(3)}, {ones(1, 1, 1, 1), ints(4, 4, 2, 2), twice(1)},
		{ones(4, 4), ints(15, 240), noTwo()}, {ones(4, 4), ints(15, 232), twice(1)}, {ones(4, 4), ints(240, 15), noTwo()}, {ones(4, 4), ints(90, 165), noTwo()}, {ones(4, 4), ints(90, 164), wrong(1)}, {ones(8), ints(255), noTwo()}, {ones(8, 8), ints(255, 255), twice(1)},
		{ones(4, 4, 0), ints(15, 232, 1), twice(1)}, {ones(4, 0, 4), ints(15, 232, 1), wrong(1)},
		{jobJ(), nil, noPlan()}, {jobJ(), ints(8), noPlan()}, {jobJ(), ints(8, 4, 1), noPlan()}, {jobJ(), ints(8, 4, 0), noPlan()}, {jobJ(), make([]int, 100000), noPlan()}, {jobJ(), ints(0, 4), noPlan()}, {jobJ(), ints(8, 0), noPlan()}, {jobJ(), ints(8, -1), noPlan()}, {jobJ(), ints(-8, 4), noPlan()}, {jobJ(), ints(16, 4), noPlan()}, {jobJ(), ints(8, 16), noPlan()}, {jobJ(), ints(8, 20), noPlan()},
		{jobJ(), ints(8, math.MaxInt), noPlan()}, {jobJ(), ints(math.MinInt, 4), noPlan()}, {jobJ(), ints(4, 0), noPlan()}, {jobJ(), ints(8, 8, 8), noPlan()}, {jobJ(), ints(4), noPlan()}, {jobK(), ints(4, 4, 16), noPlan()}, {ten(10), ints(1), noTwo()}, {ten(10), ints(2), noPlan()}, {ones(8), ints(256), noPlan()},
		{noBlocks, nil, noPlan()}, {noBlocks, ints(0), noPlan()}, {noBlocks, ints(1), noPlan()},
	} {
		same(t, "the table", modelOf(x.j).check(x.plan), x.is)
		same(t, "Check", three(job.Check(x.j, x.plan)), x.is)
		if t.Failed() {
			t.Fatalf("the job is %v, and the plan %v", x.j, x.plan)
		}
	}
	same(t, "the rules", ints(api.JobWrong, api.JobTwice), ints(1, 2))
}

// TestPlan: P12.2. Fewer blocks of all stacks together come before a lesser list, and a want leaves what another one needs.
func TestPlan(t *testing.T) {
	halves := exact(0, 30, 15, 15, 10, 10, 10)
	for _, x := range []struct {
		j    api.Job
		plan [2]any
	}{
		{api.Job{}, list()}, {jobOf(setS()), list()}, {jobOf(api.Stack{}, 0, 5000), noList()}, {jobL(), noList()},
		{ladder(30), list(4)}, {ladder(30, 30), list(3, 4)}, {exactly(exact(0, 30, 20, 10), 30, 30), list(1, 6)}, {ladder(30, 10), list(4, 1)}, {ladder(10, 20, 30), list(1, 2, 4)}, {ladder(30, 20, 10), list(4, 2, 1)}, {ladder(60), list(7)}, {ladder(60, 10), noList()},
		{exactly(exact(0, 10, 10, 20), 20, 20), list(3, 4)}, {exactly(exact(0, 10, 10, 20), 20, 20, 20), noList()}, {jobOf(exact(0, 10, 20), 10, 30, 10, 10), list(2, 1)}, {jobOf(exact(0, 10, 20), 10, 30, 10, 30), list(1, 2)},
		{exactly(halves, 30), list(1)}, {exactly(halves, 30, 30), list(1, 6)}, {exactly(halves, 30, 30, 30), list(1, 6, 56)}, {exactly(halves, 30, 30, 30, 30), noList()}, {exactly(halves, 30, 15, 15), list(1, 2, 4)}, {exactly(halves, 30, 30, 15), list(1, 56, 2)},
		// Two blocks for the want 0 leave one for the want 1, that would take three otherwise.
		{jobOf(exact(0, 30, 14, 14, 10, 11, 11), 28, 30, 30, 32), list(6, 1)}, {jobOf(exact(0, 30, 14, 14, 10, 11, 11), 30, 32, 28, 30), list(1, 6)}, {exactly(exact(0, 1, 1, 2, 2), 2, 3), list(4, 9)}, {exactly(exact(0, 1, 1, 2, 2), 3, 2), list(5, 8)}, {exactly(exact(0, 1, 1, 2, 2), 3, 3), list(5, 10)},
		{ones(1, 1), list(1, 2)}, {ones(2, 2, 2, 2), list(3, 12, 48, 192)}, {ones(1, 1, 1, 5), list(1, 2, 4, 248)}, {ones(5, 1, 1, 1), list(31, 32, 64, 128)}, {ones(3, 3, 3), noList()}, {jobOf(ones().Stack, 0, 5000, 0, 5000, 0, 5000, 0, 5000), list(1, 2, 4, 8)}, {jobOf(ones().Stack, 0, 5000, 7, 8), list(1, 254)}, {ones(0), noList()},
		{jobOf(wide(), 10, 11), list(2)}, {jobOf(wide(), 10, 11, 10, 12), list(2, 1)}, {jobOf(wide(), 10, 11, 10, 11), noList()}, {jobOf(wide(), 10, 12, 10, 12), list(1, 2)},
		// A film is between two blocks of the same stack alone.
		{exactly(exact(1, 10, 10), 21), list(3)}, {exactly(exact(1, 10, 10), 20), noList()}, {exactly(exact(1, 10, 10), 10, 10), list(1, 2)}, {jobOf(setOf(span(0, 1), 10, 10, 10, 10), 20, 21), list(3)}, {jobOf(setOf(span(0, 1), 10, 10, 10, 10), 20, 20), noList()}, {exactly(exact(5, 10, 10, 10, 10), 25, 25), list(3, 12)},
		{jobOf(exact(5, 500, 500, 500, 500, 500, 500, 500, 500), 4035, 5000), list(255)}, {jobOf(exact(5, 500, 500, 500, 500, 500, 500, 500, 500), 4036, 5000), noList()},
	} {
		same(t, "the table", modelOf(x.j).plan(), x.plan)
		same(t, "Plan", two(job.Plan(x.j)), x.plan)
		if t.Failed() {
			t.Fatalf("the job is %v", x.j)
		}
	}
}

// TestAlone: P12.3. All blocks are there for each want.
func TestAlone(t *testing.T) {
	for _, x := range []struct {
		j    api.Job
		many int
	}{
		{api.Job{}, 0}, {jobOf(setS()), 0}, {jobOf(api.Stack{}, 0, 5000, 0, 5000), 0}, {jobJ(), 3}, {ten(10), 1}, {ten(11), 0}, {ten(9), 0}, {ten(10, 10, 10, 10), 15}, {ten(11, 10, 9, 10), 10}, {ten(9, 11, 12, 10), 8},
		{exactly(exact(0, 10, 20), 10, 15, 30, 20), 13}, {jobOf(setOf(span(0, 0), 10, 12), 10, 11, 10, 12, 11, 12, 0, 5000), 10}, {ones(8, 8, 9, 8), 11}, {ones(0, 1, 9, 8), 10},
	} {
		same(t, "the table", modelOf(x.j).alone(), number(x.many))
		same(t, "Alone", two(job.Alone(x.j)), number(x.many))
		if t.Failed() {
			t.Fatalf("the job is %v", x.j)
		}
	}
}

// TestMost: P12.4. More wants come before a lesser number of the set, and none are met at once by no blocks.
func TestMost(t *testing.T) {
	for _, x := range []struct {
		j         api.Job
		many, set int
	}{
		{api.Job{}, 0, 0}, {jobOf(setS()), 0, 0}, {jobOf(api.Stack{}, 0, 5000), 0, 0}, {ten(11, 12), 0, 0}, {ten(10), 1, 1}, {ten(10, 10, 10, 10), 1, 1}, {ten(11, 10, 10), 1, 2}, {ten(11, 12, 13, 10), 1, 8}, {tens(10, 10), 2, 3}, {tens(10, 20, 10), 2, 5}, {tens(20, 10, 10), 2, 6},
		{ladder(30, 30, 30), 2, 3}, {ladder(30, 10, 20), 3, 7}, {ladder(60, 10, 20), 2, 6}, {ladder(60, 60, 10, 20), 2, 12}, {exactly(exact(0, 10, 20), 30, 10, 20), 2, 6},
		// The wants 0 and 3 can, and the wants 1 and 2.
		{powers(3, 5, 10, 12), 2, 6}, {powers(3, 12, 5, 10), 2, 3}, {powers(3, 5, 12, 10), 2, 5}, {powers(1, 2, 4, 8), 4, 15}, {powers(1, 2, 4, 4), 3, 7}, {powers(1, 2, 2, 4), 3, 11}, {powers(1, 1, 2, 4), 3, 13}, {powers(3, 1, 2, 4), 3, 14},
		{ones(2, 2, 2, 2), 4, 15}, {ones(3, 3, 3, 1), 3, 11}, {ones(8, 1, 1, 1), 3, 14}, {ones(8, 8, 8, 1), 1, 1}, {ones(4, 4, 5), 2, 3}, {ones(5, 4, 4), 2, 6}, {ones(9, 9, 5, 4), 1, 4},
		{jobOf(wide(), 10, 11, 10, 11, 11, 12), 1, 1}, {jobOf(wide(), 10, 11, 10, 12), 2, 3},
	} {
		same(t, "the table", modelOf(x.j).most(), both(x.many, x.set))
		same(t, "Most", three(job.Most(x.j)), both(x.many, x.set))
		if t.Failed() {
			t.Fatalf("the job is %v", x.j)
		}
	}
}

// TestWhy: P12.5. Fewer wants come before a lesser number of the set.
func TestWhy(t *testing.T) {
	for _, x := range []struct {
		j   api.Job
		set [2]any
	}{
		{api.Job{}, none()}, {jobOf(setS()), none()}, {jobOf(api.Stack{}, 0, 5000, 0, 5000), number(1)}, {ten(10), none()}, {ten(11), number(1)}, {ten(10, 11, 12), number(2)}, {ten(10, 10, 10), number(3)}, {ten(10, 10, 11), number(4)}, {tens(10, 10, 10, 15), number(8)}, {tens(10, 10, 10), number(7)}, {tens(10, 10), none()}, {tens(10, 20, 10), number(3)}, {tens(10, 10, 20), number(5)},
		{ladder(30, 30, 30), number(7)}, {ladder(10, 20, 30), none()}, {ladder(10, 60, 60), number(3)}, {powers(3, 5, 10, 12), number(3)}, {powers(3, 12, 5, 10), number(5)}, {powers(1, 2, 12, 8), number(12)}, {powers(1, 2, 4, 9), number(9)}, {powers(1, 2, 4, 10), number(10)}, {powers(1, 2, 4, 8), none()},
		{ones(3, 3, 3, 1), number(7)}, {ones(3, 1, 3, 3), number(13)}, {ones(1, 3, 3, 3), number(14)}, {ones(3, 3, 1, 3), number(11)}, {ones(2, 2, 2, 3), number(15)}, {ones(8, 1, 1, 1), number(3)}, {ones(1, 1, 1, 8), number(9)}, {ones(1, 1, 8, 8), number(5)}, {ones(2, 2, 2, 2), none()},
		{jobOf(wide(), 10, 11), none()}, {jobOf(wide(), 10, 11, 10, 12), none()}, {jobOf(wide(), 10, 11, 11, 12), number(3)}, {jobOf(wide(), 10, 12, 10, 10), number(2)},
	} {
		same(t, "the table", modelOf(x.j).why(), x.set)
		same(t, "Why", two(job.Why(x.j)), x.set)
		if t.Failed() {
			t.Fatalf("the job is %v", x.j)
		}
	}
}

// TestRounds: P12.6. Fewer rounds come before a lesser list, and a round need not be as full as it can be.
func TestRounds(t *testing.T) {
	for _, x := range []struct {
		j      api.Job
		rounds [2]any
	}{
		{api.Job{}, list()}, {jobOf(setS()), list()}, {jobOf(api.Stack{}, 0, 5000), noList()}, {ten(10), list(0)}, {ten(10, 11), noList()}, {ten(11, 10), noList()}, {ten(10, 10, 10, 10), list(0, 1, 2, 3)}, {ten(10, 10, 10, 11), noList()}, {tens(10, 10, 10, 10), list(0, 0, 1, 1)}, {tens(10, 10, 10), list(0, 0, 1)}, {tens(10, 20, 10), list(0, 1, 0)}, {tens(20, 20), list(0, 1)},
		{powers(3, 5, 10, 12), list(0, 1, 1, 0)}, {powers(3, 12, 5, 10), list(0, 0, 1, 1)}, {powers(3, 5, 12, 10), list(0, 1, 0, 1)}, {powers(1, 2, 4, 8), list(0, 0, 0, 0)}, {powers(15, 1, 2, 4), list(0, 1, 1, 1)}, {powers(1, 15, 2, 4), list(0, 1, 0, 0)}, {powers(1, 2, 15, 4), list(0, 0, 1, 0)}, {powers(1, 2, 4, 15), list(0, 0, 0, 1)}, {powers(15, 15, 1, 2), list(0, 1, 2, 2)}, {powers(15, 1, 15, 2), list(0, 1, 2, 1)}, {powers(1, 15, 15, 2), list(0, 1, 2, 0)}, {powers(1, 15, 2, 15), list(0, 1, 0, 2)}, {powers(15, 1, 2, 15), list(0, 1, 1, 2)}, {powers(1, 2, 15, 15), list(0, 0, 1, 2)}, {powers(15, 15, 15, 1), list(0, 1, 2, 3)},
		{exactly(exact(0, 10, 20), 30, 10, 20), list(0, 1, 1)}, {exactly(exact(0, 10, 20), 10, 30, 20), list(0, 1, 0)}, {exactly(exact(0, 10, 20), 10, 20, 30), list(0, 0, 1)},
		{ones(3, 3, 3, 1), list(0, 0, 1, 0)}, {ones(2, 2, 2, 2), list(0, 0, 0, 0)}, {ones(4, 4, 4, 4), list(0, 0, 1, 1)}, {ones(5, 5, 3, 3), list(0, 1, 0, 1)}, {ones(5, 3, 5, 3), list(0, 0, 1, 1)}, {ones(5, 5, 5, 3), list(0, 1, 2, 0)}, {ones(5, 4, 4, 3), list(0, 1, 1, 0)}, {ones(8, 8, 8, 8), list(0, 1, 2, 3)}, {ones(8, 8, 9, 8), noList()},
		// 0 0 1 2 is less, but these are three rounds.
		{ones(3, 4, 5, 4), list(0, 1, 0, 1)}, {ones(2, 2, 6, 6), list(0, 1, 0, 1)}, {ones(1, 2, 6, 7), list(0, 1, 1, 0)},
		{jobOf(wide(), 10, 11, 11, 12), list(0, 1)}, {jobOf(wide(), 10, 11, 10, 12), list(0, 0)}, {jobOf(wide(), 10, 12, 10, 10), noList()},
	} {
		same(t, "the table", modelOf(x.j).rounds(), x.rounds)
		same(t, "Rounds", two(job.Rounds(x.j)), x.rounds)
		if t.Failed() {
			t.Fatalf("the job is %v", x.j)
		}
	}
}

// TestLend: P12.7. A block that the best plan takes can be lent if there is another right plan; each block is lent alone.
func TestLend(t *testing.T) {
	for _, x := range []struct {
		j   api.Job
		set [2]any
	}{
		{api.Job{}, number(0)}, {jobOf(setS()), number(15)}, {ones(), number(255)}, {jobOf(api.Stack{}, 0, 5000), none()}, {jobL(), none()}, {ten(10), number(0)}, {ten(10, 10), none()}, {tens(10), number(3)}, {tens(10, 10), number(0)}, {tens(20), number(0)}, {tens(15), none()},
		{ladder(30), number(7)}, {ladder(30, 30), number(0)}, {ladder(10), number(6)}, {ladder(20), number(5)}, {ladder(10, 30), number(2)}, {ladder(30, 20), number(1)}, {ladder(60), number(0)}, {ladder(30, 30, 30), none()}, {exactly(exact(0, 10, 10, 20), 20), number(7)}, {exactly(exact(0, 30, 15, 15), 30), number(7)}, {exactly(exact(0, 30, 15, 15), 30, 15), number(6)}, {exactly(exact(0, 30, 15, 15), 30, 30), number(0)},
		{ones(2, 2, 2), number(255)}, {ones(2, 2, 2, 2), number(0)}, {ones(7), number(255)}, {ones(3, 4), number(255)}, {ones(8), number(0)}, {ones(9), none()}, {powers(3, 8), number(4)}, {powers(3, 4), number(8)}, {powers(6), number(9)},
		{jobOf(wide(), 10, 11), number(1)}, {jobOf(wide(), 10, 12), number(3)}, {jobOf(wide(), 10, 11, 10, 12), number(0)},
	} {
		same(t, "the table", modelOf(x.j).lend(), x.set)
		same(t, "Lend", two(job.Lend(x.j)), x.set)
		if t.Failed() {
			t.Fatalf("the job is %v", x.j)
		}
	}
}
