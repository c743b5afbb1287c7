// Package fringe is layer 1: it finds lengths by light, from the parts of fringes that were read in several colours.
package fringe

import (
	"slices"

	"blockworks/api"
)

// Part returns the whole fringes of a length in a colour, and the part of one that is left.
func Part(f api.Fringe, length, colour int) (whole, part int, e api.Errno) {
	split, e := answer(func() fraction {
		needFringe(f)
		needColour(f, colour)
		needLength(length)
		return wave(f.Waves[colour]).split(length)
	})
	return split.whole, split.part, e
}

// Lengths returns the lengths of all truths, as the fewest spans.
func Lengths(f api.Fringe) ([]api.Span, api.Errno) {
	return answer(func() []api.Span {
		needFringe(f)
		needTruth(f)
		return spans(truths(f))
	})
}

// Count returns how many truths there are.
func Count(f api.Fringe) (int, api.Errno) {
	return answer(func() int {
		needFringe(f)
		many := 0
		for range truths(f) {
			many++
		}
		return many
	})
}

// Near returns the length, of all truths, that differs least from a wish.
func Near(f api.Fringe, wish int) (length int, e api.Errno) {
	return answer(func() int {
		needFringe(f)
		needLength(wish)
		needTruth(f)
		return nearest(truths(f), wish)
	})
}

// Whole returns the whole fringes that there are in a colour in some truth, the lesser ones first.
func Whole(f api.Fringe, colour int) ([]int, api.Errno) {
	return answer(func() []int {
		var wholes []int
		for _, split := range possible(f, colour) {
			wholes = append(wholes, split.whole)
		}
		// Greater lengths never have fewer whole fringes, so equal numbers stand side by side.
		return slices.Compact(wholes)
	})
}

// Parts returns the set of the parts that there are in a colour in some truth.
func Parts(f api.Fringe, colour int) (parts int, e api.Errno) {
	return answer(func() int {
		set := 0
		for _, split := range possible(f, colour) {
			set |= 1 << split.part
		}
		return set
	})
}

// Period returns the least number above 0 that is a multiple of all waves.
func Period(f api.Fringe) (int, api.Errno) {
	return answer(func() int {
		needFringe(f)
		return int(multiply(wave.common, waves(f)...))
	})
}

// choice is a colour to read, and how many lengths are left then at most.
type choice struct{ colour, left int }

// Ask returns the colour to read next, and how many lengths are left then at most.
func Ask(f api.Fringe) (colour, left int, e api.Errno) {
	best, e := answer(func() choice {
		needFringe(f)
		needTruth(f)
		var best choice
		for i, w := range waves(f) {
			left := mostAlike(truths(f), w)
			if i == 0 || left < best.left {
				best = choice{i, left}
			}
		}
		return best
	})
	return best.colour, best.left, e
}

// Wrong returns how few readings must be wrong, and which.
func Wrong(f api.Fringe) (many, reads int, e api.Errno) {
	set, e := answer(func() readSet {
		needFringe(f)
		all := readings(f)
		set, _ := first(search[readSet]{setsBySize(len(all)), func(out readSet) bool {
			return agree(f.Length, without(all, out))
		}})
		return set
	})
	return set.size(), int(set), e
}

// Clash returns the fewest readings that cannot all be right.
func Clash(f api.Fringe) (reads int, e api.Errno) {
	return answer(func() int {
		needFringe(f)
		all := readings(f)
		everything := fullSet(len(all))
		set, found := first(search[readSet]{setsBySize(len(all)), func(kept readSet) bool {
			return !agree(f.Length, without(all, everything&^kept))
		}})
		if !found {
			panic(api.ErrNone)
		}
		return int(set)
	})
}
