package pair

import (
	"iter"

	"blockworks/api"
)

// comparator is what a comparator shows of equal blocks in the minute 0, and by how much that grows in ten minutes.
type comparator struct{ zero, rate int }

// comparators returns all comparators that a pair can have, whatever was read.
func comparators(p api.Pair) iter.Seq[comparator] {
	return func(yield func(comparator) bool) {
		for zero := p.Zero.Lo; zero <= p.Zero.Hi; zero++ {
			for rate := p.Rate.Lo; rate <= p.Rate.Hi; rate++ {
				if !yield(comparator{zero, rate}) {
					return
				}
			}
		}
	}
}

// shows returns what the comparator shows of equal blocks at a minute.
func (c comparator) shows(minute int) int {
	return c.zero + tenth(c.rate*minute)
}

// tells returns what the comparator shows of equal blocks at a minute, as a span.
func (c comparator) tells(minute int) api.Span {
	shown := c.shows(minute)
	return api.Span{Lo: shown, Hi: shown}
}

// tenth returns a number divided by 10, rounded down. Go itself rounds toward 0, which is up below 0.
func tenth(n int) int {
	down := n / api.PairTen
	if n%api.PairTen < 0 {
		down--
	}
	return down
}

// two is two blocks, or a block and the mark.
type two struct{ a, b int }

// bound is something that tells by how much a can be greater than b.
type bound interface {
	between() two
	// leaves returns from which number to which one the difference can be, with a comparator.
	leaves(c comparator) api.Span
}

// steady is a bound for which no comparator matters, as what is known of a block before anything is read.
type steady struct {
	of two
	by api.Span
}

func (s steady) between() two { return s.of }

func (s steady) leaves(comparator) api.Span { return s.by }

// reading is a bound to which a comparator has added what it shows of equal blocks.
type reading struct {
	steady
	minute int
}

func (r reading) leaves(c comparator) api.Span {
	shown := c.shows(r.minute)
	return api.Span{Lo: r.by.Lo - shown, Hi: r.by.Hi - shown}
}

func readings(p api.Pair) []reading {
	list := make([]reading, len(p.Reads))
	for i, r := range p.Reads {
		list[i] = reading{steady{two{r.A, r.B}, r.Diff}, r.Minute}
	}
	return list
}
