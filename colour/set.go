package colour

import (
	"iter"
	"math/bits"
)

// colourSet is a set of colours: its bit n is set just if the colour n is in it.
type colourSet int

func (s colourSet) has(colour int) bool { return s>>colour&1 == 1 }

func (s colourSet) with(colour int) colourSet { return s | 1<<colour }

func (s colourSet) without(colour int) colourSet { return s &^ (1 << colour) }

// colours returns the colours that are in a set, by their numbers.
func (s colourSet) colours() iter.Seq[int] {
	return func(yield func(int) bool) {
		for rest := s; rest != 0; rest &= rest - 1 {
			if !yield(bits.TrailingZeros(uint(rest))) {
				return
			}
		}
	}
}

// sets returns all sets of colours, by their numbers.
func (l light) sets() iter.Seq[colourSet] {
	return func(yield func(colourSet) bool) {
		for s := range l.all() + 1 {
			if !yield(s) {
				return
			}
		}
	}
}
