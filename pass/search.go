package pass

import (
	"iter"
	"math/bits"
)

// choice is some things of which one is chosen, and which of two is less.
type choice[T any] struct {
	all    iter.Seq[T]
	isLess func(a, b T) bool
}

// least returns the first of the things than which none is less, and whether there is one.
func least[T any](c choice[T]) (found T, exists bool) {
	for one := range c.all {
		if !exists || c.isLess(one, found) {
			found, exists = one, true
		}
	}
	return found, exists
}

// only returns those things of which it is so.
func only[T any](all iter.Seq[T], so func(T) bool) iter.Seq[T] {
	return func(yield func(T) bool) {
		for one := range all {
			if so(one) && !yield(one) {
				return
			}
		}
	}
}

// setsOf returns all sets of so many elements, by their numbers.
func setsOf(elements int) iter.Seq[int] {
	return func(yield func(int) bool) {
		for set := range 1 << elements {
			if !yield(set) {
				return
			}
		}
	}
}

// hasFewer returns whether a set has fewer elements than another one.
func hasFewer(a, b int) bool { return bits.OnesCount(uint(a)) < bits.OnesCount(uint(b)) }

func isIn(n, set int) bool { return set>>n&1 == 1 }
