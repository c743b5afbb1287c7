package settle

import (
	"iter"

	"blockworks/api"
)

// longestWait is after how many minutes each block has settled that is not touched: in each of them it comes nearer by 1 at least.
const longestWait = api.SettleExcess

func exactly(n int) api.Span { return api.Span{Lo: n, Hi: n} }

// numbersOf returns the numbers of all elements of a list.
func numbersOf[T any](list []T) []int {
	var numbers []int
	for n := range list {
		numbers = append(numbers, n)
	}
	return numbers
}

// upTo returns the numbers from 0 to a greatest one.
func upTo(greatest int) iter.Seq[int] {
	return func(yield func(int) bool) {
		for n := range greatest + 1 {
			if !yield(n) {
				return
			}
		}
	}
}

// downFrom returns the numbers from a greatest one down to 0.
func downFrom(greatest int) iter.Seq[int] {
	return func(yield func(int) bool) {
		for n := greatest; n >= 0; n-- {
			if !yield(n) {
				return
			}
		}
	}
}

// search is in which order numbers are looked at, and what has to be so of one.
type search[N ~int] struct {
	numbers iter.Seq[N]
	so      func(N) bool
}

// first returns the first number of which it is so, and whether there is one.
func first[N ~int](s search[N]) (found N, exists bool) {
	for n := range s.numbers {
		if s.so(n) {
			return n, true
		}
	}
	return 0, false
}
