package wear

import (
	"iter"
	"slices"

	"blockworks/api"
)

// event leads from what is known of a length before it to what is known after it, and back.
type event interface {
	forward(before known) known
	back(after known) known
}

// used is that a block was used so many times, each of which took off so much.
type used struct {
	times int
	use   api.Span
}

func (u used) forward(before known) known { return before.worn(u.use, u.times) }

func (u used) back(after known) known { return after.more(many(u.times, u.use)) }

// lapped is that so much was taken off at once.
type lapped struct{ off api.Span }

func (l lapped) forward(before known) known { return before.less(l.off) }

func (l lapped) back(after known) known { return after.more(l.off) }

// read is what is known of a length by a reading alone.
type read struct{ known }

func (r read) forward(before known) known { return cut(before, r.known) }

func (r read) back(after known) known { return cut(after, r.known) }

// eventOf returns what befell a block of which each use takes off so much.
func eventOf(e api.WearEvent, use api.Span) event {
	switch e.Kind {
	case api.WearUses:
		return used{e.Uses, use}
	case api.WearLap:
		return lapped{e.Span}
	}
	return read{known{e.Span}}
}

// onward returns the events of a block with their numbers, the first one first.
func onward(w api.Wear) iter.Seq2[int, event] { return eventsOf(w, slices.All(w.Events)) }

// backward returns the events of a block with their numbers, the last one first.
func backward(w api.Wear) iter.Seq2[int, event] { return eventsOf(w, slices.Backward(w.Events)) }

func eventsOf(w api.Wear, order iter.Seq2[int, api.WearEvent]) iter.Seq2[int, event] {
	return func(yield func(int, event) bool) {
		for i, e := range order {
			if !yield(i, eventOf(e, w.Use)) {
				return
			}
		}
	}
}
