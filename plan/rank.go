package plan

import (
	"cmp"
	"iter"
	"slices"
)

// rank is what sets of readings are compared by: a lesser cost comes first, and of equal costs fewer readings do.
type rank struct{ cost, reads int }

func (r rank) compare(other rank) int {
	return cmp.Or(cmp.Compare(r.cost, other.cost), cmp.Compare(r.reads, other.reads))
}

// measure tells the ranks of sets.
type measure interface {
	rank(s set) rank
}

// bySize is a measure for which all sets cost the same.
type bySize struct{}

func (bySize) reads(s set) int { return s.size() }

func (b bySize) rank(s set) rank { return rank{reads: b.reads(s)} }

// byCost is a measure for which a set has a cost: its price, or how wide blocks are by it.
type byCost struct {
	bySize
	cost func(s set) int
}

func (b byCost) rank(s set) rank { return rank{cost: b.cost(s), reads: b.reads(s)} }

// compareBy returns how sets are compared by a measure. Of those of the same rank the least number comes first.
func compareBy(by measure) func(a, b set) int {
	return func(a, b set) int {
		one, other := by.rank(a), by.rank(b)
		if one == other {
			return cmp.Compare(a, b)
		}
		return one.compare(other)
	}
}

// ranked returns all sets of so many readings, in their order by a measure.
func ranked(reads int, by measure) iter.Seq[set] {
	return slices.Values(slices.SortedFunc(allSets(reads), compareBy(by)))
}

// search is what is looked at, in order, and what has to be so of it.
type search[T any] struct {
	of iter.Seq[T]
	so func(T) bool
}

// first returns the first one of which it is so; if it is so of none, it is the zero value.
func first[T any](s search[T]) T {
	for candidate := range s.of {
		if s.so(candidate) {
			return candidate
		}
	}
	var none T
	return none
}
