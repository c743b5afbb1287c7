package job

import (
	"cmp"
	"iter"
	"slices"
)

// rounds is a number for each want: those with the same one are met at once.
type rounds []int

// with returns the rounds with a want more. It is a copy, as the same rounds go on in several ways.
func (r rounds) with(number int) rounds {
	more := make(rounds, len(r)+1)
	copy(more, r)
	more[len(r)] = number
	return more
}

// many returns how many numbers come. As none is left out, they are those up to the greatest one.
func (r rounds) many() int {
	many := 0
	for _, number := range r {
		many = max(many, number+1)
	}
	return many
}

func (r rounds) byFewest(other rounds) int { return cmp.Compare(r.many(), other.many()) }

// wantsOf returns the wants with a number.
func (r rounds) wantsOf(number int) set {
	return only(len(r), func(want int) bool { return r[want] == number })
}

// allRounds returns, in lexicographic order, the rounds of so many wants in which each number comes first where all lesser ones have come. Each other way to number the same rounds comes later in that order.
func allRounds(wants int) iter.Seq[rounds] {
	return func(yield func(rounds) bool) {
		var goOn func(r rounds) bool
		goOn = func(r rounds) bool {
			if len(r) == wants {
				return yield(r)
			}
			for number := range r.many() + 1 {
				if !goOn(r.with(number)) {
					return false
				}
			}
			return true
		}
		goOn(rounds{})
	}
}

// fewestRounds returns the first of the rounds with the fewest numbers in which all wants can be met, and whether there are such. If each want can be met alone there are.
func (s shop) fewestRounds() (rounds, bool) {
	// As the sort is stable, rounds with as many numbers stay in their order.
	all := slices.SortedStableFunc(allRounds(len(s.Wants)), rounds.byFewest)
	return first(search[rounds]{all, s.isEachMet})
}

// isEachMet returns whether the wants of each round can be met at once.
func (s shop) isEachMet(r rounds) bool {
	for number := range r.many() {
		if s.isNotMet(r.wantsOf(number)) {
			return false
		}
	}
	return true
}
