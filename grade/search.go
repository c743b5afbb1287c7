package grade

import (
	"iter"
	"math/bits"

	"blockworks/api"
)

// set is a set of grades: its bit n is set just if the grade n is in it.
type set int

// upToGrade returns the set of a grade and all better ones.
func upToGrade(grade int) set { return 1<<(grade+1) - 1 }

func (s set) with(grade int) set { return s | 1<<grade }

func (s set) size() int { return bits.OnesCount(uint(s)) }

func (s set) isIn(other set) bool { return s&^other == 0 }

func (s set) meets(other set) bool { return s&other != 0 }

// upTo returns so many numbers, from 0 on.
func upTo(many int) iter.Seq[int] { return numbersOf(api.Span{Lo: 0, Hi: many - 1}) }

// numbersOf returns the numbers of a span, the least one first.
func numbersOf(s api.Span) iter.Seq[int] {
	return func(yield func(int) bool) {
		for n := s.Lo; n <= s.Hi; n++ {
			if !yield(n) {
				return
			}
		}
	}
}

// search is what is looked at, in order, and what has to be so of it.
type search[T any] struct {
	of iter.Seq[T]
	so func(T) bool
}

// first returns the first one of which it is so, and whether there is one.
func first[T any](s search[T]) (found T, exists bool) {
	for candidate := range s.of {
		if s.so(candidate) {
			return candidate, true
		}
	}
	return found, false
}
