package wear

import (
	"iter"
	"math/bits"

	"blockworks/api"
)

// set is a set of events: its bit n is set just if the event n is in it.
type set int

func (s set) has(event int) bool { return s>>event&1 == 1 }

func (s set) with(event int) set { return s | 1<<event }

func (s set) size() int { return bits.OnesCount(uint(s)) }

func (s set) isIn(other set) bool { return s&^other == 0 }

func readingsOf(w api.Wear) set {
	var all set
	for i, e := range w.Events {
		if e.Kind == api.WearRead {
			all = all.with(i)
		}
	}
	return all
}

// fewestFirst returns all sets of some events, those of fewer first, and of these the lesser numbers.
func fewestFirst(of set) iter.Seq[set] {
	return func(yield func(set) bool) {
		for size := range of.size() + 1 {
			for candidate := range of + 1 {
				if candidate.isIn(of) && candidate.size() == size && !yield(candidate) {
					return
				}
			}
		}
	}
}

// upTo returns so many numbers, from 0 on.
func upTo(many int) iter.Seq[int] {
	return func(yield func(int) bool) {
		for n := range many {
			if !yield(n) {
				return
			}
		}
	}
}

// downFrom returns the numbers from a greatest one down to 0.
func downFrom(greatest int) iter.Seq[int] {
	return func(yield func(int) bool) {
		for n := greatest; n >= 0; n-- {
			if !yield(n) {
				return
			}
		}
	}
}

// search is in which order numbers are looked at, and what has to be so of one.
type search[N ~int] struct {
	numbers iter.Seq[N]
	so      func(N) bool
}

// first returns the first number of which it is so, and whether there is one.
func first[N ~int](s search[N]) (found N, exists bool) {
	for n := range s.numbers {
		if s.so(n) {
			return n, true
		}
	}
	return 0, false
}
