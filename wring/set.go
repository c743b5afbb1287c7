package wring

import (
	"iter"
	"math/bits"

	"blockworks/api"
)

// set is a set of blocks, or of faces: its bit n is set just if n is in it.
type set[E ~int] int

func (s set[E]) has(element E) bool { return s>>element&1 == 1 }

func (s set[E]) with(element E) set[E] { return s | 1<<element }

func (s set[E]) size() int { return bits.OnesCount(uint(s)) }

// full returns the set of the first so many elements.
func full[E ~int](many int) set[E] { return 1<<many - 1 }

func allBlocks(w api.Wring) set[int] { return full[int](len(w.Blocks)) }

// fewFirst returns the sizes that sets of so many elements have, the least one first.
func fewFirst(elements int) iter.Seq[int] {
	return func(yield func(int) bool) {
		for size := range elements + 1 {
			if !yield(size) {
				return
			}
		}
	}
}

// manyFirst returns the sizes that sets of so many elements have, the greatest one first.
func manyFirst(elements int) iter.Seq[int] {
	return func(yield func(int) bool) {
		for left := range elements + 1 {
			if !yield(elements - left) {
				return
			}
		}
	}
}

// search is which sets of so many elements are looked for, and of which sizes, those first that are wanted first.
type search[E ~int] struct {
	elements int
	sizes    iter.Seq[int]
	suits    func(set[E]) bool
}

// first returns, of the first size of which a set suits, the one with the least number, and whether there is one.
func first[E ~int](s search[E]) (found set[E], exists bool) {
	for size := range s.sizes {
		for candidate := range full[E](s.elements) + 1 {
			if candidate.size() == size && s.suits(candidate) {
				return candidate, true
			}
		}
	}
	return 0, false
}
