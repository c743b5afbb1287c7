package job

import "slices"

// planAll returns the best right plan for all wants, and whether there is one.
func (s shop) planAll() (plan, bool) {
	found := s.meet(left{s.wants(), s.blocks()})
	return found.plan, found.exists
}

// isMet returns whether some wants can be met at once.
func (s shop) isMet(wants set) bool {
	return s.meet(left{wants, s.blocks()}).exists
}

func (s shop) isNotMet(wants set) bool { return !s.isMet(wants) }

// alone returns the wants that can be met alone.
func (s shop) alone() set {
	return only(len(s.Wants), func(want int) bool { return s.isMet(set(0).with(want)) })
}

// most returns the first set of the most wants that can be met at once. There always is one, as the empty set can.
func (s shop) most() (set, bool) {
	return first(search[set]{s.ranked(set.byMost), s.isMet})
}

// why returns the first set of the fewest wants that cannot be met at once, and whether there is one.
func (s shop) why() (set, bool) {
	return first(search[set]{s.ranked(set.byFewest), s.isNotMet})
}

// ranked returns all sets of wants in an order.
func (s shop) ranked(by func(a, b set) int) []set {
	return slices.SortedFunc(s.wants().subsets(), by)
}

// lent returns the blocks without each of which, of all others, all wants can be met at once.
func (s shop) lent() set {
	return only(len(s.Stack.Blocks), func(block int) bool {
		return s.meet(left{s.wants(), s.blocks().without(block)}).exists
	})
}

// search is some things, in the order in which they are looked at, and what has to be so of one.
type search[T any] struct {
	all   []T
	suits func(T) bool
}

// first returns the first of the things that suits, and whether there is one.
func first[T any](s search[T]) (found T, exists bool) {
	for _, one := range s.all {
		if s.suits(one) {
			return one, true
		}
	}
	return found, false
}
