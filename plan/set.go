package plan

import (
	"iter"
	"math/bits"
)

// set is a set of readings, or of blocks: its bit n is set just if n is in it.
type set int

// fullSet returns the set of the first so many numbers.
func fullSet(many int) set { return 1<<many - 1 }

func (s set) has(n int) bool { return s>>n&1 == 1 }

func (s set) size() int { return bits.OnesCount(uint(s)) }

func (s set) with(n int) set { return s | 1<<n }

func (s set) without(n int) set { return s &^ (1 << n) }

// least returns the least number of a set that is not empty.
func (s set) least() int { return bits.TrailingZeros(uint(s)) }

// allSets returns all sets of the first so many numbers.
func allSets(many int) iter.Seq[set] {
	return func(yield func(set) bool) {
		for s := range fullSet(many) + 1 {
			if !yield(s) {
				return
			}
		}
	}
}

// changed returns what a change by one of the first so many numbers makes of a set; not those by which nothing changes.
func (s set) changed(many int, change func(s set, n int) set) iter.Seq[set] {
	return func(yield func(set) bool) {
		for n := range many {
			if other := change(s, n); other != s && !yield(other) {
				return
			}
		}
	}
}

// only returns a copy of those elements of a list whose numbers are taken.
func only[T any](list []T, taken func(n int) bool) []T {
	some := make([]T, len(list))
	many := 0
	for n := range list {
		if taken(n) {
			many += copy(some[many:], list[n:n+1])
		}
	}
	return some[:many]
}

// sum adds numbers up.
func sum(numbers ...int) int {
	all := 0
	for _, n := range numbers {
		all += n
	}
	return all
}
