package job_test

import (
	"iter"
	"math/bits"
	"slices"

	"blockworks/api"
)

// The model works each answer out once more, as slowly and as directly as the document's words allow: it goes through all lengths that a stack can have, and it puts each block into each stack, or into none.

func span(lo, hi int) api.Span { return api.Span{Lo: lo, Hi: hi} }

func inside(n int, s api.Span) bool { return s.Lo <= n && n <= s.Hi }

func ints(list ...int) []int { return list }

func has(set, n int) bool { return set>>n&1 == 1 }

func size(set int) int { return bits.OnesCount(uint(set)) }

// blocksOf returns how many blocks a plan takes.
func blocksOf(plan []int) int {
	many := 0
	for _, stack := range plan {
		many += size(stack)
	}
	return many
}

// sums returns all numbers that a number of the list and one of the span can be together.
func sums(list map[int]bool, s api.Span) map[int]bool {
	all := map[int]bool{}
	for n := range list {
		for more := s.Lo; more <= s.Hi; more++ {
			all[n+more] = true
		}
	}
	return all
}

// lengthsOf returns the lengths that each stack has in some truth, by its number.
func lengthsOf(s api.Stack) []map[int]bool {
	all := make([]map[int]bool, 1<<len(s.Blocks))
	for i, b := range s.Blocks {
		all[1<<i] = sums(map[int]bool{0: true}, b)
		for below := 1; below < 1<<i; below++ {
			all[below|1<<i] = sums(sums(all[below], s.Film), b)
		}
	}
	return all
}

// model is a valid job, whether each stack surely is right for each want, which sets of wants can be met at once, the right plan with the fewest blocks, if there is one, and the blocks that some right plan does not take.
type model struct {
	api.Job
	right [][]bool
	can   map[int]bool
	best  []int
	met   bool
	lent  int
}

func modelOf(j api.Job) model {
	m := model{Job: j, can: map[int]bool{}}
	lengths := lengthsOf(j.Stack)
	for _, want := range j.Wants {
		row := make([]bool, len(lengths))
		for stack := 1; stack < len(lengths); stack++ {
			row[stack] = true
			for n := range lengths[stack] {
				row[stack] = row[stack] && inside(n, want)
			}
		}
		m.right = append(m.right, row)
	}
	for plan := range m.ways() {
		m.look(plan)
	}
	return m
}

func (m model) all() int { return 1<<len(m.Wants) - 1 }

// ways returns all ways to put each block into the stack of one of the wants, or into none. Each list is the same memory.
func (m model) ways() iter.Seq[[]int] {
	return func(yield func([]int) bool) {
		plan := make([]int, len(m.Wants))
		var put func(block int) bool
		put = func(block int) bool {
			if block == len(m.Stack.Blocks) {
				return yield(plan)
			}
			if !put(block + 1) {
				return false
			}
			for want := range plan {
				plan[want] += 1 << block
				if !put(block + 1) {
					return false
				}
				plan[want] -= 1 << block
			}
			return true
		}
		put(0)
	}
}

// look notes what can be told by one way to put the blocks.
func (m *model) look(plan []int) {
	met, used := 0, 0
	for want, stack := range plan {
		used += stack
		if m.right[want][stack] {
			met += 1 << want
		}
	}
	for set := range met + 1 {
		if met&set == set {
			m.can[set] = true
		}
	}
	if met != m.all() {
		return
	}
	m.lent |= 1<<len(m.Stack.Blocks) - 1 - used
	fewer := blocksOf(plan) - blocksOf(m.best)
	if !m.met || fewer < 0 || fewer == 0 && slices.Compare(plan, m.best) < 0 {
		m.best, m.met = slices.Clone(plan), true
	}
}

func (m model) isPlan(plan []int) bool {
	fine := len(plan) == len(m.Wants)
	for _, stack := range plan {
		fine = fine && stack > 0 && stack < 1<<len(m.Stack.Blocks)
	}
	return fine
}

func (m model) check(plan []int) [3]any {
	if !m.isPlan(plan) {
		return three(0, 0, api.ErrRange)
	}
	for want, stack := range plan {
		if !m.right[want][stack] {
			return both(want, 1)
		}
		for _, before := range plan[:want] {
			if before&stack != 0 {
				return both(want, 2)
			}
		}
	}
	return noTwo()
}

func (m model) plan() [2]any {
	if !m.met {
		return noList()
	}
	return list(m.best...)
}

func (m model) alone() [2]any {
	set := 0
	for want := range m.Wants {
		if m.can[1<<want] {
			set += 1 << want
		}
	}
	return number(set)
}

// most looks at the greatest numbers first, so that the least one of the best stays.
func (m model) most() [3]any {
	best := 0
	for set := m.all(); set >= 0; set-- {
		if m.can[set] && size(set) >= size(best) {
			best = set
		}
	}
	return both(size(best), best)
}

func (m model) why() [2]any {
	best := -1
	for set := m.all(); set >= 0; set-- {
		if !m.can[set] && (best < 0 || size(set) <= size(best)) {
			best = set
		}
	}
	if best < 0 {
		return none()
	}
	return number(best)
}

// lists returns all lists of as many numbers as there are wants, each less than that, in lexicographic order.
func (m model) lists() [][]int {
	all := [][]int{{}}
	for range m.Wants {
		var longer [][]int
		for _, list := range all {
			for number := range m.Wants {
				longer = append(longer, append(slices.Clone(list), number))
			}
		}
		all = longer
	}
	return all
}

// numbersOf returns how many different numbers there are in a list.
func numbersOf(list []int) int {
	seen := map[int]bool{}
	for _, number := range list {
		seen[number] = true
	}
	return len(seen)
}

// areRounds returns whether a list is rounds: no number is left out, and those with the same one can be met at once.
func (m model) areRounds(list []int) bool {
	for _, number := range list {
		together := 0
		for want, other := range list {
			if other == number {
				together += 1 << want
			}
		}
		if !m.can[together] || number > 0 && !slices.Contains(list, number-1) {
			return false
		}
	}
	return true
}

func (m model) rounds() [2]any {
	var best []int
	for _, list := range m.lists() {
		if m.areRounds(list) && (best == nil || numbersOf(list) < numbersOf(best)) {
			best = list
		}
	}
	if best == nil {
		return noList()
	}
	return list(best...)
}

func (m model) lend() [2]any {
	if !m.met {
		return none()
	}
	return number(m.lent)
}

// isValid returns whether a job is valid; it looks at all numbers before it subtracts any.
func isValid(j api.Job) bool {
	fine := len(j.Stack.Blocks) <= 8 && len(j.Wants) <= 4
	for _, b := range j.Stack.Blocks {
		fine = fine && b.Lo >= 1 && b.Lo <= b.Hi && b.Hi <= 500 && b.Hi-b.Lo <= 6
	}
	film := j.Stack.Film
	fine = fine && film.Lo >= 0 && film.Lo <= film.Hi && film.Hi <= 5
	for _, w := range j.Wants {
		fine = fine && w.Lo >= 0 && w.Lo <= w.Hi && w.Hi <= 5000
	}
	return fine
}

// chance is a row of numbers that look random and are always the same.
type chance uint64

func (c *chance) below(n int) int {
	*c = *c*6364136223846793005 + 1442695040888963407
	return int(uint64(*c) >> 33 % uint64(n))
}

func (c *chance) between(lo, hi int) int { return lo + c.below(hi-lo+1) }

func (c *chance) one(of ...int) int { return of[c.below(len(of))] }

// order returns the first so many numbers, in any order.
func (c *chance) order(many int) []int {
	var list []int
	for n := range many {
		list = slices.Insert(list, c.between(0, n), n)
	}
	return list
}

// within returns a span within lo to hi that is at most so wide.
func (c *chance) within(lo, hi, wide int) api.Span {
	s := span(c.between(lo, hi), 0)
	s.Hi = s.Lo + c.below(min(wide, hi-s.Lo)+1)
	return s
}

// set returns a set of blocks, of which often some are alike, so that several plans are as good.
func (c *chance) set(fewest, most int) api.Stack {
	longest, wide := c.one(3, 8, 30, 500), c.one(0, 0, 2, 6)
	s := api.Stack{Film: c.within(0, api.StackFilm, c.one(0, 0, 2))}
	for range c.between(fewest, most) {
		b := c.within(1, longest, wide)
		if len(s.Blocks) > 0 && c.below(4) == 0 {
			b = s.Blocks[c.below(len(s.Blocks))]
		}
		s.Blocks = append(s.Blocks, b)
	}
	return s
}

// truth is how long each block truly is, and how thick a film between two of them truly is, in each stack; the film i is the one above the ith block of a stack.
type truth struct {
	blocks []int
	films  [][]int
}

func (c *chance) truth(s api.Stack, stacks int) truth {
	var is truth
	for _, b := range s.Blocks {
		is.blocks = append(is.blocks, c.between(b.Lo, b.Hi))
	}
	for range stacks {
		var films []int
		for range s.Blocks {
			films = append(films, c.between(s.Film.Lo, s.Film.Hi))
		}
		is.films = append(is.films, films)
	}
	return is
}

// long returns how long the stack of a want truly is.
func (is truth) long(want, stack int) int {
	long := 0
	for i, n := range is.blocks {
		if has(stack, i) {
			long += n
		}
	}
	for _, n := range is.films[want][:size(stack)-1] {
		long += n
	}
	return long
}

// want returns a want of which often some stacks of few blocks are right.
func (c *chance) want(s api.Stack) api.Span {
	if len(s.Blocks) == 0 || c.below(10) == 0 {
		return c.within(0, api.StackWant, c.one(0, 50, api.StackWant))
	}
	lo, hi := 0, 0
	for i := range c.one(1, 1, 1, 2, 2, 3) {
		b := s.Blocks[c.below(len(s.Blocks))]
		lo, hi = lo+b.Lo, hi+b.Hi
		if i > 0 {
			lo, hi = lo+s.Film.Lo, hi+s.Film.Hi
		}
	}
	return span(max(0, lo-c.below(c.one(1, 2, 8))), hi+c.below(c.one(1, 2, 8)))
}

// job returns a job of a set of blocks; often some wants are the same.
func (c *chance) job(s api.Stack, wants int) api.Job {
	j := api.Job{Stack: s}
	for range wants {
		want := c.want(s)
		if len(j.Wants) > 0 && c.below(5) == 0 {
			want = j.Wants[c.below(len(j.Wants))]
		}
		j.Wants = append(j.Wants, want)
	}
	return j
}

// any returns any job with blocks enough for some plans, and few enough for the model.
func (c *chance) any() api.Job {
	if c.below(6) == 0 {
		return c.tight()
	}
	return c.job(c.set(c.one(0, 2, 4), c.one(5, 5, 6)), c.one(0, 1, 2, 2, 3, 3, 4, 4))
}

// tight returns a job of blocks that are alike, of which two rounds of two wants each take all; the wants of one round stand anywhere.
func (c *chance) tight() api.Job {
	many := c.between(5, 6)
	j := api.Job{Stack: api.Stack{Blocks: slices.Repeat([]api.Span{span(1, 1)}, many)}, Wants: make([]api.Span, 4)}
	a, b := c.between(1, many-1), c.between(1, many-1)
	for n, to := range c.order(4) {
		takes := ints(a, many-a, b, many-b)[n]
		j.Wants[to] = span(takes, takes)
	}
	return j
}

// plan returns a list with any stack for each want, or one of which often a rule is kept, or broken late.
func (c *chance) plan(m model) []int {
	plan := make([]int, len(m.Wants))
	for want := range plan {
		plan[want] = c.between(1, 1<<len(m.Stack.Blocks)-1)
		if m.met && c.below(4) > 0 {
			plan[want] = m.best[want]
		}
		for tries := c.below(30); tries > 0 && !m.right[want][plan[want]]; tries-- {
			plan[want] = c.between(1, 1<<len(m.Stack.Blocks)-1)
		}
	}
	return plan
}
