package warm

import (
	"iter"
	"math"

	"blockworks/api"
)

// reading is what a reading asks of a block.
type reading interface {
	// warmths returns the warmths, of those of the reading, at which a block shows what was read; shows tells what the block shows at a warmth.
	warmths(shows func(warmth int) int) iter.Seq[int]
}

// exact is a reading at one warmth.
type exact struct {
	warmth int
	read   api.Span
}

func (x exact) allows(number int) bool {
	return x.read.Lo <= number && number <= x.read.Hi
}

func (x exact) warmths(shows func(warmth int) int) iter.Seq[int] {
	return func(yield func(int) bool) {
		if x.allows(shows(x.warmth)) {
			yield(x.warmth)
		}
	}
}

// vague is a reading at one of several warmths: from that of the exact one to the last.
type vague struct {
	exact
	last int
}

func (v vague) warmths(shows func(warmth int) int) iter.Seq[int] {
	return func(yield func(int) bool) {
		for t := v.warmth; t <= v.last; t++ {
			if v.allows(shows(t)) && !yield(t) {
				return
			}
		}
	}
}

func readings(w api.Warm) []reading {
	list := make([]reading, len(w.Readings))
	for i, r := range w.Readings {
		first := exact{r.Warm.Lo, r.Shows}
		if r.Warm.Lo == r.Warm.Hi {
			list[i] = first
		} else {
			list[i] = vague{first, r.Warm.Hi}
		}
	}
	return list
}

// canBeRight returns whether a block of a pair shows what was read at some warmth of the reading.
func canBeRight(r reading, p pair) bool {
	for range r.warmths(p.shows) {
		return true
	}
	return false
}

// heldAt returns the warmths that a reading can have had, with each pair. The warmths of the other readings do not matter: each reading has its own.
func heldAt(set pairSet, r reading) iter.Seq[int] {
	return func(yield func(int) bool) {
		for p := range set {
			for t := range r.warmths(p.shows) {
				if !yield(t) {
					return
				}
			}
		}
	}
}

// ends is the least and the greatest one of some numbers.
type ends [2]int

// reach returns the ends of numbers, of which there has to be one.
func reach(numbers iter.Seq[int]) ends {
	told := ends{math.MaxInt, math.MinInt}
	for n := range numbers {
		told[0] = min(told[0], n)
		told[1] = max(told[1], n)
	}
	return told
}

func (e ends) span() api.Span {
	return api.Span{Lo: e[0], Hi: e[1]}
}
