package warm

import (
	"iter"

	"blockworks/api"
)

// pair is a length and a coefficient that a block can have. The mark is the same in all pairs of a block; it stands here so that a pair alone tells what the block shows.
type pair struct{ mark, length, coeff int }

func (p pair) howLong() int { return p.length }

func (p pair) howMuch() int { return p.coeff }

// shows returns what the block shows at a warmth.
func (p pair) shows(warmth int) int {
	return p.length + tenth(product(p.mark, p.coeff, warmth))
}

// tenth returns a number divided by 10, rounded down. Go itself rounds toward 0, which is up below 0.
func tenth(n int) int {
	down := n / 10
	if n%10 < 0 {
		down--
	}
	return down
}

func product(numbers ...int) int {
	all := 1
	for _, n := range numbers {
		all *= n
	}
	return all
}

// pairs returns each length of a block with each of its coefficients, whatever was read.
func pairs(w api.Warm) iter.Seq[pair] {
	return func(yield func(pair) bool) {
		for length := w.Length.Lo; length <= w.Length.Hi; length++ {
			for coeff := w.Coeff.Lo; coeff <= w.Coeff.Hi; coeff++ {
				if !yield(pair{w.Mark, length, coeff}) {
					return
				}
			}
		}
	}
}

// pairSet is a set of pairs. It has no order, so it is asked only for what no order changes: ends, numbers, and whether there is one.
type pairSet map[pair]bool

// left returns the pairs of a block of which all of these readings can be right.
func left(w api.Warm, reads []reading) pairSet {
	set := pairSet{}
next:
	for p := range pairs(w) {
		for _, r := range reads {
			if !canBeRight(r, p) {
				continue next
			}
		}
		set[p] = true
	}
	return set
}

// truths returns the pairs that a block has in some truth; without a truth it panics.
func truths(w api.Warm) pairSet {
	set := left(w, readings(w))
	if len(set) == 0 {
		panic(api.ErrClash)
	}
	return set
}

// each returns what tell tells of each pair.
func each(set pairSet, tell func(pair) int) iter.Seq[int] {
	return func(yield func(int) bool) {
		for p := range set {
			if !yield(tell(p)) {
				return
			}
		}
	}
}

// shown returns what each pair shows at each warmth.
func shown(set pairSet, warmth api.Span) iter.Seq[int] {
	return func(yield func(int) bool) {
		for p := range set {
			for t := warmth.Lo; t <= warmth.Hi; t++ {
				if !yield(p.shows(t)) {
					return
				}
			}
		}
	}
}

// widestRoom returns up to which warmth, above and below the right one, each pair shows at most off beside its length.
func widestRoom(set pairSet, off int) int {
	most := 0
rooms:
	for n := 1; n <= api.WarmMost; n++ {
		// Both ends are looked at: below 0 it is rounded down away from 0, so a block can shrink by more than it grows.
		for p := range set {
			if p.shows(n)-p.length > off || p.length-p.shows(-n) > off {
				break rooms
			}
		}
		most = n
	}
	return most
}

// mostAlike returns how many pairs show the number that most of them show at a warmth.
func mostAlike(set pairSet, warmth int) int {
	often := map[int]int{}
	most := 0
	for p := range set {
		number := p.shows(warmth)
		often[number]++
		most = max(most, often[number])
	}
	return most
}
