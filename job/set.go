package job

import (
	"cmp"
	"iter"
	"math/bits"
)

// set is a set of wants, or of blocks: its bit n is set just if n is in it. A stack is a set of blocks.
type set int

// fullSet returns the set of the first so many numbers.
func fullSet(many int) set { return 1<<many - 1 }

func (s set) with(n int) set { return s | 1<<n }

func (s set) without(n int) set { return s &^ (1 << n) }

func (s set) holds(other set) bool { return other&^s == 0 }

func (s set) size() int { return bits.OnesCount(uint(s)) }

// least returns the least number of a set that is not empty.
func (s set) least() int { return bits.TrailingZeros(uint(s)) }

// byFewest compares sets: those of fewer come first, and of those of as many the lesser one.
func (s set) byFewest(other set) int {
	return cmp.Or(cmp.Compare(s.size(), other.size()), cmp.Compare(s, other))
}

// byMost compares sets: those of more come first, and of those of as many the lesser one.
func (s set) byMost(other set) int {
	return cmp.Or(cmp.Compare(other.size(), s.size()), cmp.Compare(s, other))
}

// joined returns what sets have together.
func joined(sets ...set) set {
	var all set
	for _, s := range sets {
		all |= s
	}
	return all
}

// only returns the set of those of the first so many numbers of which something is so.
func only(many int, is func(n int) bool) set {
	var some set
	for n := range many {
		if is(n) {
			some = some.with(n)
		}
	}
	return some
}

// subsets returns all sets that a full set holds, by their numbers.
func (s set) subsets() iter.Seq[set] {
	return func(yield func(set) bool) {
		for sub := range s + 1 {
			if !yield(sub) {
				return
			}
		}
	}
}

// those returns the sets of which something is so.
func those(sets iter.Seq[set], is func(set) bool) iter.Seq[set] {
	return func(yield func(set) bool) {
		for s := range sets {
			if is(s) && !yield(s) {
				return
			}
		}
	}
}
