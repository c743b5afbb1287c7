package stack_test

import (
	"math/bits"

	"blockworks/api"
)

// The model works each answer out once more, as slowly and as directly as the document's words allow: it goes through all truths of a stack, one length after the other.

func span(lo, hi int) api.Span { return api.Span{Lo: lo, Hi: hi} }

func inside(n int, s api.Span) bool { return s.Lo <= n && n <= s.Hi }

func size(set int) int { return bits.OnesCount(uint(set)) }

// sums returns all numbers that a number of the list and one of the span can be together.
func sums(list map[int]bool, s api.Span) map[int]bool {
	all := map[int]bool{}
	for n := range list {
		for more := s.Lo; more <= s.Hi; more++ {
			all[n+more] = true
		}
	}
	return all
}

// model is the lengths that each stack has in some truth, by its number.
type model []map[int]bool

func modelOf(s api.Stack) model {
	all := make(model, 1<<len(s.Blocks))
	for i, b := range s.Blocks {
		// Below the block i all stacks are there: each of them has it put on, and a film before that; alone it has none.
		all[1<<i] = sums(map[int]bool{0: true}, b)
		for below := 1; below < 1<<i; below++ {
			all[below|1<<i] = sums(sums(all[below], s.Film), b)
		}
	}
	return all
}

func (m model) long(stack int) api.Span {
	least, greatest := api.StackWant, 0
	for n := range m[stack] {
		least, greatest = min(least, n), max(greatest, n)
	}
	return span(least, greatest)
}

func (m model) right(stack int, want api.Span) int {
	good := 0
	for n := range m[stack] {
		if inside(n, want) {
			good++
		}
	}
	switch good {
	case 0:
		return api.StackNever
	case len(m[stack]):
		return api.StackAlways
	}
	return api.StackPerhaps
}

// off returns how far a stack can be off a length.
func (m model) off(stack, length int) int {
	most := 0
	for n := range m[stack] {
		most = max(most, n-length, length-n)
	}
	return most
}

// rights returns the stacks of which Right would return a number, the lesser ones first.
func (m model) rights(want api.Span, number int) []int {
	var list []int
	for stack := 1; stack < len(m); stack++ {
		if m.right(stack, want) == number {
			list = append(list, stack)
		}
	}
	return list
}

func (m model) fewest(want api.Span) (int, api.Errno) {
	best := 0
	for _, stack := range m.rights(want, api.StackAlways) {
		if best == 0 || size(stack) < size(best) {
			best = stack
		}
	}
	if best == 0 {
		return 0, api.ErrNone
	}
	return best, api.OK
}

func (m model) count(want api.Span) (surely, perhaps int) {
	surely = len(m.rights(want, api.StackAlways))
	return surely, surely + len(m.rights(want, api.StackPerhaps))
}

func (m model) needed(want api.Span) (each, some int, e api.Errno) {
	all := m.rights(want, api.StackAlways)
	if len(all) == 0 {
		return 0, 0, api.ErrNone
	}
	each = len(m) - 1
	for _, stack := range all {
		each &= stack
		some |= stack
	}
	return each, some, api.OK
}

func (m model) nearest(length int) (blocks, off int, e api.Errno) {
	for stack := 1; stack < len(m); stack++ {
		by := m.off(stack, length)
		if blocks == 0 || by < off || by == off && size(stack) < size(blocks) {
			blocks, off = stack, by
		}
	}
	if blocks == 0 {
		return 0, 0, api.ErrNone
	}
	return blocks, off, api.OK
}

func (m model) gap(from, to, off int) (int, api.Errno) {
	for length := from; length <= to; length++ {
		_, by, e := m.nearest(length)
		if e == api.ErrNone || by > off {
			return length, api.OK
		}
	}
	return 0, api.ErrNone
}

// chance is a row of numbers that look random and are always the same.
type chance uint64

func (c *chance) below(n int) int {
	*c = *c*6364136223846793005 + 1442695040888963407
	return int(uint64(*c) >> 33 % uint64(n))
}

func (c *chance) between(lo, hi int) int { return lo + c.below(hi-lo+1) }

// within returns a span within lo to hi that is at most so wide.
func (c *chance) within(lo, hi, wide int) api.Span {
	s := span(c.between(lo, hi), 0)
	s.Hi = s.Lo + c.below(min(wide, hi-s.Lo)+1)
	return s
}

// set returns a set of at most so many blocks. Often some of them are alike, so that several stacks are as good, and often blocks are known well, so that many stacks are surely right.
func (c *chance) set(most int) api.Stack {
	longest, wide := []int{4, 30, 500}[c.below(3)], []int{0, 2, 6}[c.below(3)]
	s := api.Stack{Film: c.within(0, api.StackFilm, []int{0, 2, 5}[c.below(3)])}
	for range c.below(most + 1) {
		b := c.within(1, longest, wide)
		if len(s.Blocks) > 0 && c.below(4) == 0 {
			b = s.Blocks[c.below(len(s.Blocks))]
		}
		s.Blocks = append(s.Blocks, b)
	}
	return s
}

// truth is how long each block truly is, and how thick a film between two of them truly is; the film i is the one above the ith block of a stack.
type truth struct{ blocks, films []int }

func (c *chance) truth(s api.Stack) truth {
	var is truth
	for _, b := range s.Blocks {
		is.blocks = append(is.blocks, c.between(b.Lo, b.Hi))
		is.films = append(is.films, c.between(s.Film.Lo, s.Film.Hi))
	}
	return is
}

func (is truth) long(stack int) int {
	long, joints := 0, size(stack)-1
	for i, n := range is.blocks {
		if stack>>i&1 == 1 {
			long += n
		}
	}
	for _, n := range is.films[:joints] {
		long += n
	}
	return long
}

// stack returns a stack of a set; there has to be a block.
func (c *chance) stack(s api.Stack) int { return c.between(1, 1<<len(s.Blocks)-1) }

// near returns a length near one that a stack can have, or any other one.
func (c *chance) near(s api.Stack) int {
	if len(s.Blocks) == 0 || c.below(8) == 0 {
		return c.between(0, api.StackWant)
	}
	return max(0, c.truth(s).long(c.stack(s))+c.between(-8, 8))
}

// want returns a want of which often some stacks are right.
func (c *chance) want(s api.Stack) api.Span {
	n := c.near(s)
	return span(max(0, n-c.below(10)), min(api.StackWant, n+c.below(40)))
}
