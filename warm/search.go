package warm

import (
	"iter"
	"slices"

	"blockworks/api"
)

// contest is offers, in order, and what each of them costs.
type contest[T any] struct {
	offers []T
	cost   func(T) int
}

// won is the place of an offer, and what it costs.
type won struct{ place, cost int }

// best returns the offer that costs least, of several the first one.
func best[T any](c contest[T]) won {
	var found won
	for place, offer := range c.offers {
		cost := c.cost(offer)
		if place == 0 || cost < found.cost {
			found = won{place, cost}
		}
	}
	return found
}

// readingSet is a set of readings: its bit n is set just if the reading n is in it.
type readingSet int

func (s readingSet) has(n int) bool { return s>>n&1 == 1 }

// setsOf returns the sets of so many of the first readings, the lesser numbers first.
func setsOf(size, readings int) iter.Seq[readingSet] {
	return func(yield func(readingSet) bool) {
		// grow tells of each reading below a number, the last one first, whether it is in the set: as a last reading weighs more than all before it, leaving it out first gives the numbers in order.
		var grow func(set readingSet, below, missing int) bool
		grow = func(set readingSet, below, missing int) bool {
			if missing > below {
				return true
			}
			if below == 0 {
				return yield(set)
			}
			if !grow(set, below-1, missing) {
				return false
			}
			return missing == 0 || grow(set|1<<(below-1), below-1, missing-1)
		}
		grow(0, readings, size)
	}
}

// fewestClashing returns the fewest readings with which alone there is no truth, and whether there are such.
func fewestClashing(w api.Warm) (readingSet, bool) {
	all := readings(w)
	for size := range len(all) + 1 {
		for set := range setsOf(size, len(all)) {
			if len(left(w, only(all, set))) == 0 {
				return set, true
			}
		}
	}
	return 0, false
}

// only returns the readings of a set. It works on a copy, because Delete moves what it keeps.
func only(all []reading, set readingSet) []reading {
	kept := make([]reading, len(all))
	copy(kept, all)
	for i := len(all) - 1; i >= 0; i-- {
		if !set.has(i) {
			kept = slices.Delete(kept, i, i+1)
		}
	}
	return kept
}
