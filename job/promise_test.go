package job_test

import (
	"slices"
	"testing"

	"blockworks/api"
	"blockworks/job"
	"blockworks/stack"
)

// cases is how many jobs each of these tests goes through.
const cases = 400

// compareAll fails unless what is told of a job, and of some plans, is as the model tells it.
func compareAll(t *testing.T, m model, plans ...[]int) {
	t.Helper()
	for _, plan := range plans {
		same(t, "Check", three(job.Check(m.Job, plan)), m.check(plan))
	}
	same(t, "Plan", two(job.Plan(m.Job)), m.plan())
	same(t, "Alone", two(job.Alone(m.Job)), m.alone())
	same(t, "Most", three(job.Most(m.Job)), m.most())
	same(t, "Why", two(job.Why(m.Job)), m.why())
	same(t, "Rounds", two(job.Rounds(m.Job)), m.rounds())
	same(t, "Lend", two(job.Lend(m.Job)), m.lend())
	if t.Failed() {
		t.Fatalf("the job is %v, and the plans are %v", m.Job, plans)
	}
}

// TestModel: P12.1 to P12.7, of many jobs.
func TestModel(t *testing.T) {
	c := chance(1)
	seen := map[string]int{}
	for range cases * 3 {
		m := modelOf(c.any())
		var plans [][]int
		if len(m.Stack.Blocks) > 0 {
			plans = [][]int{c.plan(m), c.plan(m), c.plan(m)}
		}
		compareAll(t, m, plans...)
		for _, plan := range plans {
			seen[[]string{"right", "wrong", "twice"}[m.check(plan)[1].(int)]]++
		}
		for _, kind := range m.kinds() {
			seen[kind]++
		}
	}
	for _, kind := range []string{"right", "wrong", "twice", "no plan", "several wants", "three wants or more", "stacks of several blocks", "several rounds", "a round of several", "first rounds are not full", "most are some", "most are not the first", "why are some", "why are several", "lent are some", "lent are taken"} {
		if seen[kind] < cases/20 {
			t.Errorf("of %d jobs only %d are of the kind: %s", cases*3, seen[kind], kind)
		}
	}
}

// kinds returns of which kinds a job is.
func (m model) kinds() []string {
	rounds := m.rounds()[0].([]int)
	why, _ := m.why()[0].(int)
	most := m.most()[1].(int)
	taken := 0
	for _, stack := range m.best {
		taken |= stack
	}
	var list []string
	for _, kind := range []struct {
		name string
		is   bool
	}{
		{"no plan", !m.met},
		{"several wants", m.met && len(m.Wants) > 1},
		{"three wants or more", m.met && len(m.Wants) > 2},
		{"stacks of several blocks", m.met && size(taken) > len(m.Wants)},
		{"several rounds", numbersOf(rounds) > 1},
		{"a round of several", numbersOf(rounds) > 1 && numbersOf(rounds) < len(rounds)},
		{"first rounds are not full", len(rounds) > 2 && numbersOf(rounds) == 2 && rounds[1] == 1 && m.can[3]},
		{"most are some", most > 0 && most < m.all()},
		{"most are not the first", most&(most+1) != 0},
		{"why are some", why > 0 && why < m.all()},
		{"why are several", size(why) > 1},
		{"lent are some", m.met && m.lent != 0 && m.lent < 1<<len(m.Stack.Blocks)-1},
		{"lent are taken", m.lent&taken != 0},
	} {
		if kind.is {
			list = append(list, kind.name)
		}
	}
	return list
}

// TestWidest: P12.1 to P12.7, and P1. As many blocks as there can be, for as many wants.
func TestWidest(t *testing.T) {
	c := chance(2)
	jobs := []api.Job{ones(2, 2, 2, 2), ones(3, 3, 3, 1), ones(5, 5, 3, 3), jobOf(ones().Stack, 0, 5000, 0, 5000, 0, 5000, 0, 5000), jobOf(ones().Stack, 2, 8, 2, 8, 2, 8, 2, 8)}
	for range 4 {
		jobs = append(jobs, c.job(c.set(8, 8), 4))
	}
	for _, j := range jobs {
		m := modelOf(j)
		compareAll(t, m, c.plan(m), c.plan(m), c.plan(m))
	}
}

// without returns a set of blocks without one of them.
func without(s api.Stack, block int) api.Stack {
	s.Blocks = slices.Delete(slices.Clone(s.Blocks), block, block+1)
	return s
}

// put returns a set of numbers that goes round a number that is left out: those from it on are one more.
func put(set, out int) int {
	low := 1<<out - 1
	return set&low | set&^low<<1
}

// only returns a job with those wants that are in a set.
func only(j api.Job, set int) api.Job {
	some := api.Job{Stack: j.Stack}
	for want, w := range j.Wants {
		if has(set, want) {
			some.Wants = append(some.Wants, w)
		}
	}
	return some
}

func canMeet(j api.Job) bool {
	_, e := job.Plan(j)
	return e == api.OK
}

// isTrue fails unless, however long blocks and however thick films truly are, each stack is as long as is wanted, and no block is needed twice.
func isTrue(t *testing.T, c *chance, j api.Job, plan []int) {
	t.Helper()
	if len(plan) != len(j.Wants) {
		t.Fatalf("%v: %v is no plan", j, plan)
	}
	for range 20 {
		truth := c.truth(j.Stack, len(plan))
		used := 0
		for want, one := range plan {
			if one == 0 || used&one != 0 {
				t.Fatalf("%v: by %v a block is needed twice", j, plan)
			}
			used |= one
			if long := truth.long(want, one); !inside(long, j.Wants[want]) {
				t.Fatalf("%v: by %v the want %d is %d long", j, plan, want, long)
			}
		}
	}
}

// TestTrue: P12.9, P2 and P5. Whatever is true, by a right plan each stack is as long as is wanted, and no block is needed twice; so it is in each round.
func TestTrue(t *testing.T) {
	c := chance(3)
	right, several := 0, 0
	for range cases * 2 {
		j := c.job(c.set(2, 8), c.between(1, 4))
		if plan, e := job.Plan(j); e == api.OK {
			right++
			isTrue(t, &c, j, plan)
			same(t, "Check", three(job.Check(j, plan)), noTwo())
		}
		rounds, e := job.Rounds(j)
		if e == api.OK && numbersOf(rounds) > 1 {
			several++
		}
		for number := range numbersOf(rounds) {
			together := 0
			for want, other := range rounds {
				if other == number {
					together |= 1 << want
				}
			}
			round := only(j, together)
			plan, e := job.Plan(round)
			if together == 0 || e != api.OK {
				t.Fatalf("%v: the round %d of %v cannot be met, %v", j, number, rounds, e)
			}
			isTrue(t, &c, round, plan)
		}
	}
	if right < cases/3 || several < cases/10 {
		t.Errorf("of %d jobs %d are met at once, and %d in several rounds", cases*2, right, several)
	}
}

// TestLent: P12.9. What is told to be lent is not in each right plan, and what is not told is.
func TestLent(t *testing.T) {
	c := chance(4)
	lent, kept := 0, 0
	for range cases {
		j := c.job(c.set(1, 8), c.below(4))
		blocks, e := job.Lend(j)
		same(t, "whether there is a plan", e == api.OK, canMeet(j))
		if e != api.OK {
			continue
		}
		for block := range j.Stack.Blocks {
			plan, e := job.Plan(api.Job{Stack: without(j.Stack, block), Wants: j.Wants})
			if has(blocks, block) != (e == api.OK) {
				t.Fatalf("%v: %b can be lent, and without %d: %v, %v", j, blocks, block, plan, e)
			}
			if e != api.OK {
				kept++
				continue
			}
			lent++
			for want := range plan {
				plan[want] = put(plan[want], block)
			}
			same(t, "Check", three(job.Check(j, plan)), noTwo())
		}
	}
	if lent < cases/4 || kept < cases/4 {
		t.Errorf("%d blocks are lent, and %d are kept", lent, kept)
	}
}

// TestWants: P12.3 to P12.5, and P12.9. Wants that cannot be met at once are never all among those of Most; each want that can be met alone is among some that can; without any one of those of Why the other ones can be met.
func TestWants(t *testing.T) {
	c := chance(5)
	for range cases {
		j := c.job(c.set(0, 8), c.below(5))
		alone, _ := job.Alone(j)
		many, most, _ := job.Most(j)
		why, e := job.Why(j)
		among := 0
		for set := range 1 << len(j.Wants) {
			can := canMeet(only(j, set))
			switch {
			case can:
				among |= set
			case set&most == set:
				t.Fatalf("%v: %b cannot be met, and %b is told", j, set, most)
			case e != api.OK || size(set) < size(why) || size(set) == size(why) && set < why:
				t.Fatalf("%v: %b cannot be met, and told is %b, %v", j, set, why, e)
			}
			if can && (size(set) > many || size(set) == many && set < most) {
				t.Fatalf("%v: %b can be met, and told are %d, %b", j, set, many, most)
			}
		}
		same(t, "those that are among some", among, alone)
		same(t, "Most", many, size(most))
		for want := range j.Wants {
			if has(why, want) && !canMeet(only(j, why&^(1<<want))) {
				t.Fatalf("%v: without %d the others of %b cannot be met", j, want, why)
			}
		}
		same(t, "whether all can be met", e == api.ErrNone, canMeet(j))
		if t.Failed() {
			t.Fatalf("the job is %v", j)
		}
	}
}

// TestManyRounds: P12.6 and P12.9. In as many rounds as there are wants all can be met that can alone; in one just if all can at once.
func TestManyRounds(t *testing.T) {
	c := chance(6)
	for range cases {
		j := c.job(c.set(0, 8), c.between(1, 4))
		alone, _ := job.Alone(j)
		_, e := job.Rounds(j)
		same(t, "whether there are rounds", e == api.OK, alone == 1<<len(j.Wants)-1)
		some := only(j, alone)
		rounds, e := job.Rounds(some)
		many := numbersOf(rounds)
		if e != api.OK || len(rounds) != size(alone) || many > len(rounds) {
			t.Fatalf("%v: the rounds are %v, %v", some, rounds, e)
		}
		same(t, "whether one is enough", many <= 1, canMeet(some))
		for number := range many {
			if !slices.Contains(rounds, number) {
				t.Fatalf("%v: the rounds are %v", some, rounds)
			}
		}
		if t.Failed() {
			t.Fatalf("the job is %v", j)
		}
	}
}

// better returns a job with a block more, with a wider want, or of which a block or a film is known better.
func (c *chance) better(j api.Job) api.Job {
	b := api.Job{Stack: api.Stack{Film: j.Stack.Film, Blocks: slices.Clone(j.Stack.Blocks)}, Wants: slices.Clone(j.Wants)}
	narrow := func(x *api.Span) {
		x.Lo = c.between(x.Lo, x.Hi)
		x.Hi = c.between(x.Lo, x.Hi)
	}
	switch kind := c.below(4); {
	case kind == 0 && len(b.Stack.Blocks) < api.StackBlocks:
		b.Stack.Blocks = append(b.Stack.Blocks, c.within(1, 30, api.StackWide))
	case kind == 1 && len(b.Stack.Blocks) > 0:
		narrow(&b.Stack.Blocks[c.below(len(b.Stack.Blocks))])
	case kind == 2:
		narrow(&b.Stack.Film)
	case len(b.Wants) > 0:
		w := &b.Wants[c.below(len(b.Wants))]
		*w = span(max(0, w.Lo-c.below(10)), min(api.StackWant, w.Hi+c.below(10)))
	}
	return b
}

// TestMore: P12.9 and P2. With a block more, one that is known better, or a wider want no fewer are met at once, in no more rounds, and by no more blocks; what could be lent still can.
func TestMore(t *testing.T) {
	c := chance(7)
	more := 0
	for range cases * 3 {
		j := c.job(c.set(0, 7), c.between(1, 4))
		b := c.better(j)
		many, _, _ := job.Most(j)
		best, _, e := job.Most(b)
		if e != api.OK || best < many {
			t.Fatalf("%v: %d are met, %v, and of %v %d", b, best, e, j, many)
		}
		if best > many {
			more++
		}
		alone, _ := job.Alone(j)
		if also, _ := job.Alone(b); alone&^also != 0 {
			t.Fatalf("%v: alone are %b, and of %v %b", b, also, j, alone)
		}
		rounds, e := job.Rounds(j)
		if fewer, f := job.Rounds(b); e == api.OK && (f != api.OK || numbersOf(fewer) > numbersOf(rounds)) {
			t.Fatalf("%v: rounds are %v, %v, and of %v %v", b, fewer, f, j, rounds)
		}
		plan, e := job.Plan(j)
		if fewer, f := job.Plan(b); e == api.OK && (f != api.OK || blocksOf(fewer) > blocksOf(plan)) {
			t.Fatalf("%v: the plan is %v, %v, and of %v %v", b, fewer, f, j, plan)
		}
		lent, e := job.Lend(j)
		if also, f := job.Lend(b); e == api.OK && (f != api.OK || lent&^also != 0) {
			t.Fatalf("%v: lent are %b, %v, and of %v %b", b, also, f, j, lent)
		}
	}
	if more < cases/20 {
		t.Errorf("of %d jobs only %d are met better", cases*3, more)
	}
}

// moved returns a set with the new numbers: what had the number n has the number order[n].
func moved(set int, order []int) int {
	is := 0
	for n, to := range order {
		is |= set >> n & 1 << to
	}
	return is
}

// movedSpans returns the same spans with other numbers.
func movedSpans(list []api.Span, order []int) []api.Span {
	to := make([]api.Span, len(list))
	for n, s := range list {
		to[order[n]] = s
	}
	return to
}

// TestOtherWants: P12.9 and P11. If wants are numbered otherwise as many are met, by as few blocks, in as few rounds.
func TestOtherWants(t *testing.T) {
	c := chance(8)
	for range cases {
		j := c.job(c.set(0, 8), c.below(5))
		order := c.order(len(j.Wants))
		q := api.Job{Stack: j.Stack, Wants: movedSpans(j.Wants, order)}
		plan, e := job.Plan(j)
		other, f := job.Plan(q)
		same(t, "Plan", two(blocksOf(other), f), two(blocksOf(plan), e))
		back := make([]int, len(plan))
		for want := range plan {
			back[want] = other[order[want]]
		}
		if e == api.OK {
			same(t, "Check", three(job.Check(j, back)), noTwo())
		}
		alone, _ := job.Alone(j)
		same(t, "Alone", two(job.Alone(q)), number(moved(alone, order)))
		many, _, _ := job.Most(j)
		as, _, _ := job.Most(q)
		same(t, "Most", as, many)
		why, e := job.Why(j)
		also, f := job.Why(q)
		same(t, "Why", two(size(also), f), two(size(why), e))
		rounds, e := job.Rounds(j)
		ordered, f := job.Rounds(q)
		same(t, "Rounds", two(numbersOf(ordered), f), two(numbersOf(rounds), e))
		same(t, "Lend", two(job.Lend(q)), two(job.Lend(j)))
		if t.Failed() {
			t.Fatalf("the jobs are %v and %v", j, q)
		}
	}
}

// TestOtherBlocks: P11. If blocks are numbered otherwise all that is told of wants is the same, and as few blocks are taken.
func TestOtherBlocks(t *testing.T) {
	c := chance(9)
	for range cases {
		j := c.job(c.set(0, 8), c.below(5))
		order := c.order(len(j.Stack.Blocks))
		q := api.Job{Stack: api.Stack{Film: j.Stack.Film, Blocks: movedSpans(j.Stack.Blocks, order)}, Wants: j.Wants}
		same(t, "Alone", two(job.Alone(q)), two(job.Alone(j)))
		same(t, "Most", three(job.Most(q)), three(job.Most(j)))
		same(t, "Why", two(job.Why(q)), two(job.Why(j)))
		same(t, "Rounds", two(job.Rounds(q)), two(job.Rounds(j)))
		lent, e := job.Lend(j)
		same(t, "Lend", two(job.Lend(q)), two(moved(lent, order), e))
		plan, e := job.Plan(j)
		other, f := job.Plan(q)
		same(t, "Plan", two(blocksOf(other), f), two(blocksOf(plan), e))
		for want := range plan {
			plan[want] = moved(plan[want], order)
		}
		if e == api.OK {
			same(t, "Check", three(job.Check(q, plan)), noTwo())
		}
		if t.Failed() {
			t.Fatalf("the jobs are %v and %v", j, q)
		}
	}
}

// TestOneWant: P12.1, P12.2, P12.7 and P5. For one want the plan is the stack of the fewest blocks that layer 4 tells, a stack is right just if it is told to be there, and those blocks can be lent that are not needed there.
func TestOneWant(t *testing.T) {
	c := chance(10)
	for range cases {
		j := c.job(c.set(0, 8), 1)
		fewest, e := stack.Fewest(j.Stack, j.Wants[0])
		plan, f := job.Plan(j)
		same(t, "Plan", f, e)
		if e == api.OK {
			same(t, "Plan", plan, ints(fewest))
		}
		needed, _, e := stack.Needed(j.Stack, j.Wants[0])
		spared := 0
		if e == api.OK {
			spared = 1<<len(j.Stack.Blocks) - 1 - needed
		}
		same(t, "Lend", two(job.Lend(j)), two(spared, e))
		for one := 1; one < 1<<len(j.Stack.Blocks); one++ {
			told := wrong(0)
			if right, _ := stack.Right(j.Stack, one, j.Wants[0]); right == api.StackAlways {
				told = noTwo()
			}
			same(t, "Check", three(job.Check(j, ints(one))), told)
		}
		if t.Failed() {
			t.Fatalf("the job is %v", j)
		}
	}
}

// TestReplay: P11. The same call returns the same, however often it is made.
func TestReplay(t *testing.T) {
	c := chance(11)
	for range cases / 4 {
		j := c.job(c.set(1, 8), c.below(5))
		plan := make([]int, len(j.Wants))
		for want := range plan {
			plan[want] = c.between(1, 1<<len(j.Stack.Blocks)-1)
		}
		for _, do := range calls(plan) {
			first := do.do(j)
			for range 3 {
				same(t, do.name, do.do(j), first)
			}
		}
	}
}
