package pair

import (
	"iter"
	"maps"
	"math"

	"blockworks/api"
)

// possible returns the comparators with which there is a truth, each with what blocks can differ by then.
func possible(p api.Pair) iter.Seq2[comparator, gaps] {
	return func(yield func(comparator, gaps) bool) {
		before := unread(p.Blocks)
		reads := readings(p)
	next:
		for c := range comparators(p) {
			left := before
			for _, r := range reads {
				if !left.narrow(r, c) {
					continue next
				}
			}
			if !yield(c, left) {
				return
			}
		}
	}
}

// agree returns whether there is a truth.
func agree(p api.Pair) bool {
	for range possible(p) {
		return true
	}
	return false
}

// known is what blocks can differ by with each comparator with which there is a truth. It has no order, so it is asked only for what no order changes.
type known map[comparator]gaps

// truths returns what is known by all readings; without a truth it panics.
func truths(p api.Pair) known {
	all := known{}
	for c, left := range possible(p) {
		all[c] = left
	}
	if len(all) == 0 {
		panic(api.ErrClash)
	}
	return all
}

// question is what each of several truths tells, and about what it is asked.
type question[T, A any] struct {
	tell  func(truth T, about A) api.Span
	about A
}

// reach returns the span from the least to the greatest number that some truth tells; there has to be one.
func reach[T, A any](truths iter.Seq[T], ask question[T, A]) api.Span {
	all := api.Span{Lo: math.MaxInt, Hi: math.MinInt}
	for truth := range truths {
		told := ask.tell(truth, ask.about)
		all = api.Span{Lo: min(all.Lo, told.Lo), Hi: max(all.Hi, told.Hi)}
	}
	return all
}

// longest is the blocks that are longest in each truth, and those that are in some.
type longest struct{ surely, perhaps set }

func longestOf(blocks int, all known) longest {
	told := longest{surely: fullSet(blocks)}
	for _, g := range all {
		told.surely &= those(blocks, g.surelyLongest)
		told.perhaps |= those(blocks, g.perhapsLongest)
	}
	return told
}

// farthest is two blocks, and how wide it is what they can differ by.
type farthest struct {
	two
	wide int
}

// farthestOf returns the two blocks that are known least of one another, of which there have to be two.
func farthestOf(blocks int, all known) farthest {
	found := farthest{wide: -1}
	for a := range blocks {
		for b := a + 1; b < blocks; b++ {
			pair := two{a, b}
			apart := wide(reach(maps.Values(all), question[gaps, two]{gaps.differ, pair}))
			if apart > found.wide {
				found = farthest{pair, apart}
			}
		}
	}
	return found
}

// groups returns how many groups of blocks hang together by what was read.
func groups(p api.Pair) int {
	var joined set
	var join func(block int)
	join = func(block int) {
		if joined.has(block) {
			return
		}
		joined |= 1 << block
		for _, r := range p.Reads {
			switch block {
			case r.A:
				join(r.B)
			case r.B:
				join(r.A)
			}
		}
	}
	many := 0
	for block := range p.Blocks {
		if !joined.has(block) {
			many++
			join(block)
		}
	}
	return many
}
