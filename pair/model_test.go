package pair_test

import (
	"math/bits"

	"blockworks/api"
)

// The model works each answer out once more, as slowly and as directly as the document's words allow: it goes through all deviations, zeros and rates.

func span(lo, hi int) api.Span { return api.Span{Lo: lo, Hi: hi} }

func read(a, b, minute, lo, hi int) api.PairRead {
	return api.PairRead{A: a, B: b, Minute: minute, Diff: span(lo, hi)}
}

func inside(n int, s api.Span) bool { return s.Lo <= n && n <= s.Hi }

// truth is one way in which all can be so.
type truth struct {
	deviations [api.PairBlocks]int
	zero, rate int
}

// shows takes away what is left over before it divides, so that nothing is rounded.
func (so truth) shows(minute int) int {
	drift := so.rate * minute
	over := (drift%10 + 10) % 10
	return so.zero + (drift-over)/10
}

func (so truth) right(r api.PairRead) bool {
	return inside(so.deviations[r.A]-so.deviations[r.B]+so.shows(r.Minute), r.Diff)
}

// rightReads returns the set of the readings that are right.
func (so truth) rightReads(p api.Pair) int {
	set := 0
	for i, r := range p.Reads {
		if so.right(r) {
			set |= 1 << i
		}
	}
	return set
}

// longest returns the set of the blocks than which no other one has a greater deviation.
func (so truth) longest(blocks int) int {
	set := 0
	for a := range blocks {
		beaten := false
		for b := range blocks {
			beaten = beaten || so.deviations[b] > so.deviations[a]
		}
		if !beaten {
			set |= 1 << a
		}
	}
	return set
}

// each goes through all deviations, zeros and rates of a pair, whatever was read.
func each(p api.Pair, visit func(truth)) {
	var so truth
	var choose func(block int)
	choose = func(block int) {
		if block == len(p.Blocks) {
			visit(so)
			return
		}
		for n := p.Blocks[block].Lo; n <= p.Blocks[block].Hi; n++ {
			so.deviations[block] = n
			choose(block + 1)
		}
	}
	for so.zero = p.Zero.Lo; so.zero <= p.Zero.Hi; so.zero++ {
		for so.rate = p.Rate.Lo; so.rate <= p.Rate.Hi; so.rate++ {
			choose(0)
		}
	}
}

// model is what is known of a pair after all truths have been gone through.
type model struct {
	truthful        bool
	known           [api.PairBlocks]api.Span
	differ          [api.PairBlocks][api.PairBlocks]api.Span
	shows           [api.PairMinutes + 1]api.Span
	surely, perhaps int
	// rights are the sets of readings that are right at the same time.
	rights map[int]bool
}

func modelOf(p api.Pair) model {
	m := model{surely: 1<<len(p.Blocks) - 1, rights: map[int]bool{}}
	drifts := map[[2]int]bool{}
	each(p, func(so truth) {
		right := so.rightReads(p)
		m.rights[right] = true
		if right != 1<<len(p.Reads)-1 {
			return
		}
		for a := range p.Blocks {
			widen(&m.known[a], so.deviations[a], !m.truthful)
			for b := range p.Blocks {
				widen(&m.differ[a][b], so.deviations[a]-so.deviations[b], !m.truthful)
			}
		}
		if drift := [2]int{so.zero, so.rate}; !drifts[drift] {
			drifts[drift] = true
			for minute := range m.shows {
				widen(&m.shows[minute], so.shows(minute), !m.truthful)
			}
		}
		longest := so.longest(len(p.Blocks))
		m.surely &= longest
		m.perhaps |= longest
		m.truthful = true
	})
	return m
}

func widen(s *api.Span, n int, first bool) {
	if first {
		*s = span(n, n)
	}
	*s = span(min(s.Lo, n), max(s.Hi, n))
}

func (m model) least(blocks int) (a, b, wide int) {
	wide = -1
	for x := range blocks {
		for y := x + 1; y < blocks; y++ {
			if n := m.differ[x][y].Hi - m.differ[x][y].Lo; n > wide {
				a, b, wide = x, y, n
			}
		}
	}
	return a, b, wide
}

// canBe returns whether there is a truth with these readings alone.
func (m model) canBe(reads int) bool {
	for right := range m.rights {
		if right&reads == reads {
			return true
		}
	}
	return false
}

func (m model) wrong(reads int) int {
	return fewest(reads, func(out int) bool { return m.canBe((1<<reads - 1) &^ out) })
}

func (m model) clash(reads int) int {
	return fewest(reads, func(kept int) bool { return !m.canBe(kept) })
}

// fewest returns the set of the fewest readings that suits, of several the least number; -1 if none does.
func fewest(reads int, suits func(set int) bool) int {
	best := -1
	for set := range 1 << reads {
		if suits(set) && (best < 0 || count(set) < count(best)) {
			best = set
		}
	}
	return best
}

func count(set int) int { return bits.OnesCount(uint(set)) }

// modelGroups gives each block a colour, and paints groups that hang together alike until nothing changes.
func modelGroups(p api.Pair) int {
	colours := make([]int, len(p.Blocks))
	for i := range colours {
		colours[i] = i
	}
	for range p.Blocks {
		for _, r := range p.Reads {
			least := min(colours[r.A], colours[r.B])
			colours[r.A], colours[r.B] = least, least
		}
	}
	kinds := map[int]bool{}
	for _, c := range colours {
		kinds[c] = true
	}
	return len(kinds)
}

// chance is a row of numbers that look random and are always the same.
type chance uint64

func (c *chance) below(n int) int {
	*c = *c*6364136223846793005 + 1442695040888963407
	return int(uint64(*c) >> 33 % uint64(n))
}

func (c *chance) between(lo, hi int) int { return lo + c.below(hi-lo+1) }

// around returns a span within lo to hi that contains n, and is at most so wide.
func (c *chance) around(n, wide, lo, hi int) api.Span {
	s := span(n-c.between(0, wide), n)
	s.Hi = s.Lo + c.between(n-s.Lo, wide)
	return span(max(s.Lo, lo), min(s.Hi, hi))
}

// pair returns a pair, and what truly is so of it if none of its readings was misread. Without all it is one of which the model can go through all truths.
func (c *chance) pair(misread, all bool) (p api.Pair, is truth) {
	blocks := c.between(1, 5)
	widest := 40
	if !all {
		widest = []int{40, 40, 9, 4, 2}[blocks-1]
	}
	for i := range blocks {
		is.deviations[i] = c.between(-20, 20)
		if c.below(2) == 0 {
			is.deviations[i] = c.between(-3, 3)
		}
		p.Blocks = append(p.Blocks, c.around(is.deviations[i], c.between(0, widest), -20, 20))
	}
	is.zero, is.rate = c.between(-10, 10), c.between(-5, 5)
	p.Zero = c.around(is.zero, c.between(0, 4), -10, 10)
	p.Rate = c.around(is.rate, c.between(0, 4), -5, 5)
	if blocks > 1 {
		for range c.between(0, 8) {
			p.Reads = append(p.Reads, c.reading(blocks, is, misread && c.below(4) == 0))
		}
	}
	return p, is
}

func (c *chance) reading(blocks int, is truth, misread bool) api.PairRead {
	a := c.below(blocks)
	b := (a + c.between(1, blocks-1)) % blocks
	minute := c.between(0, 60)
	diff := is.deviations[a] - is.deviations[b] + is.shows(minute)
	if misread {
		diff = max(-80, min(80, diff+c.between(-9, 9)))
	}
	return api.PairRead{A: a, B: b, Minute: minute, Diff: c.around(diff, []int{0, 2, 6, 30}[c.below(4)], -80, 80)}
}
