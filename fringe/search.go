package fringe

import (
	"iter"
	"math/bits"
	"slices"
)

// readSet is a set of readings: its bit n is set just if the reading n is in it.
type readSet int

func (s readSet) size() int { return bits.OnesCount(uint(s)) }

func (s readSet) has(n int) bool { return s>>n&1 == 1 }

// fullSet returns the set of the first so many readings.
func fullSet(many int) readSet { return 1<<many - 1 }

// search is candidates, in order, and which of them suit.
type search[T any] struct {
	candidates iter.Seq[T]
	suits      func(T) bool
}

// first returns the first candidate that suits, and whether there is one.
func first[T any](s search[T]) (T, bool) {
	for candidate := range s.candidates {
		if s.suits(candidate) {
			return candidate, true
		}
	}
	var none T
	return none, false
}

// setsBySize returns all sets of so many readings: smaller sets first, and of equal ones the lesser number.
func setsBySize(many int) iter.Seq[readSet] {
	return func(yield func(readSet) bool) {
		for size := range many + 1 {
			for set := readSet(0); set <= fullSet(many); set++ {
				if set.size() == size && !yield(set) {
					return
				}
			}
		}
	}
}

// without returns readings but those of a set. It works on a copy, because Delete moves what it keeps.
func without(reads []reading, out readSet) []reading {
	kept := make([]reading, len(reads))
	copy(kept, reads)
	for i := len(reads) - 1; i >= 0; i-- {
		if out.has(i) {
			kept = slices.Delete(kept, i, i+1)
		}
	}
	return kept
}
