package warm_test

import (
	"math/bits"

	"blockworks/api"
)

// The model works each answer out once more, as slowly and as directly as the document's words allow.

func span(lo, hi int) api.Span { return api.Span{Lo: lo, Hi: hi} }

func read(warmLo, warmHi, showsLo, showsHi int) api.WarmReading {
	return api.WarmReading{Warm: span(warmLo, warmHi), Shows: span(showsLo, showsHi)}
}

func inside(n int, s api.Span) bool { return s.Lo <= n && n <= s.Hi }

// modelShows takes away what is left over before it divides, so that nothing is rounded.
func modelShows(mark, length, coeff, warmth int) int {
	grown := mark * coeff * warmth
	over := (grown%10 + 10) % 10
	return length + (grown-over)/10
}

// truth is one way in which all can be so: a length, a coefficient, and a warmth of each reading.
type truth struct {
	length, coeff int
	warmths       []int
}

// modelTruths goes through all truths of a block, with those readings alone that are in the set kept.
func modelTruths(w api.Warm, kept int, visit func(truth)) {
	for length := w.Length.Lo; length <= w.Length.Hi; length++ {
		for coeff := w.Coeff.Lo; coeff <= w.Coeff.Hi; coeff++ {
			modelWarmths(w, kept, truth{length, coeff, nil}, visit)
		}
	}
}

func modelWarmths(w api.Warm, kept int, so truth, visit func(truth)) {
	i := len(so.warmths)
	if i == len(w.Readings) {
		visit(so)
		return
	}
	r := w.Readings[i]
	for t := r.Warm.Lo; t <= r.Warm.Hi; t++ {
		if kept>>i&1 == 1 && !inside(modelShows(w.Mark, so.length, so.coeff, t), r.Shows) {
			continue
		}
		more := append(append([]int(nil), so.warmths...), t)
		modelWarmths(w, kept, truth{so.length, so.coeff, more}, visit)
		if kept>>i&1 == 0 {
			// A reading that is left out can have had any warmth, and one is enough.
			break
		}
	}
}

// model is what is known of a block after all truths have been gone through.
type model struct {
	truthful      bool
	length, coeff api.Span
	held          []api.Span
	pairs         [][2]int
	clash         int
}

func modelOf(w api.Warm) model {
	m := model{held: make([]api.Span, len(w.Readings))}
	seen := map[[2]int]bool{}
	modelTruths(w, -1, func(so truth) {
		widen(&m.length, so.length, !m.truthful)
		widen(&m.coeff, so.coeff, !m.truthful)
		for i, t := range so.warmths {
			widen(&m.held[i], t, !m.truthful)
		}
		m.truthful = true
		if p := [2]int{so.length, so.coeff}; !seen[p] {
			seen[p] = true
			m.pairs = append(m.pairs, p)
		}
	})
	if !m.truthful {
		m.clash = modelClash(w)
	}
	return m
}

func widen(s *api.Span, n int, first bool) {
	if first {
		*s = span(n, n)
	}
	*s = span(min(s.Lo, n), max(s.Hi, n))
}

func modelClash(w api.Warm) int {
	best := -1
	for kept := range 1 << len(w.Readings) {
		found := false
		modelTruths(w, kept, func(truth) { found = true })
		if !found && (best < 0 || bits.OnesCount(uint(kept)) < bits.OnesCount(uint(best))) {
			best = kept
		}
	}
	return best
}

func (m model) shows(mark int, warmth api.Span) api.Span {
	var told api.Span
	first := true
	for _, p := range m.pairs {
		for t := warmth.Lo; t <= warmth.Hi; t++ {
			widen(&told, modelShows(mark, p[0], p[1], t), first)
			first = false
		}
	}
	return told
}

func (m model) room(mark, off int) int {
	for n := 100; n > 0; n-- {
		if m.keeps(mark, n, off) {
			return n
		}
	}
	return 0
}

// keeps returns whether the block shows at most off beside its length in a room, whichever truth it is.
func (m model) keeps(mark, room, off int) bool {
	for _, p := range m.pairs {
		for t := -room; t <= room; t++ {
			if !inside(modelShows(mark, p[0], p[1], t)-p[0], span(-off, off)) {
				return false
			}
		}
	}
	return true
}

func (m model) next(mark int, offers []int) (offer, left int) {
	for i, t := range offers {
		counts := map[int]int{}
		most := 0
		for _, p := range m.pairs {
			counts[modelShows(mark, p[0], p[1], t)]++
		}
		for _, n := range counts {
			most = max(most, n)
		}
		if i == 0 || most < left {
			offer, left = i, most
		}
	}
	return offer, left
}

// chance is a row of numbers that look random and are always the same.
type chance uint64

func (c *chance) below(n int) int {
	*c = *c*6364136223846793005 + 1442695040888963407
	return int(uint64(*c) >> 33 % uint64(n))
}

func (c *chance) between(lo, hi int) int { return lo + c.below(hi-lo+1) }

// around returns a span within lo to hi that contains n, and is at most so wide.
func (c *chance) around(n, wide, lo, hi int) api.Span {
	s := span(n-c.between(0, wide), n)
	s.Hi = s.Lo + c.between(n-s.Lo, wide)
	return span(max(s.Lo, lo), min(s.Hi, hi))
}

// known is what truly is so of a block.
type known struct {
	length, coeff int
	warmths       []int
}

// block returns a block, and what truly is so of it if none of its readings was misread.
func (c *chance) block(misread bool) (w api.Warm, is known) {
	is.length, is.coeff = c.between(-1000, 1000), c.between(0, 20)
	w.Mark = c.between(1, []int{5, 100}[c.below(2)])
	w.Length = c.around(is.length, []int{0, 4, 24}[c.below(3)], -1000, 1000)
	w.Coeff = c.around(is.coeff, c.between(0, 3), 0, 20)
	for range c.between(0, 5) {
		r, t := c.reading(w, is, misread && c.below(3) == 0)
		w.Readings = append(w.Readings, r)
		is.warmths = append(is.warmths, t)
	}
	return w, is
}

func (c *chance) reading(w api.Warm, is known, misread bool) (api.WarmReading, int) {
	most := []int{3, 20, 100}[c.below(3)]
	t := c.between(-most, most)
	number := modelShows(w.Mark, is.length, is.coeff, t)
	if misread {
		number += c.between(-30, 30)
	}
	return api.WarmReading{
		Warm:  c.around(t, c.between(0, 4), -100, 100),
		Shows: c.around(number, []int{2, 10, 200}[c.below(3)], -30000, 30000),
	}, t
}

func (c *chance) offers() []int {
	var list []int
	for range c.between(1, 6) {
		list = append(list, c.between(-[]int{3, 100}[c.below(2)], 100))
	}
	return list
}

func (c *chance) warmth() api.Span {
	lo := c.between(-100, 100)
	return span(lo, c.between(lo, min(100, lo+[]int{0, 5, 200}[c.below(3)])))
}
