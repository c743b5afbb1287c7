package plan_test

import (
	"math/bits"
	"slices"

	"blockworks/api"
	"blockworks/pair"
)

// The model works each answer out once more, as slowly and as directly as the document's words allow: it goes through all deviations, zeros and rates, and then through all sets of readings.

func span(lo, hi int) api.Span { return api.Span{Lo: lo, Hi: hi} }

func read(a, b, minute, lo, hi int) api.PairRead {
	return api.PairRead{A: a, B: b, Minute: minute, Diff: span(lo, hi)}
}

func inside(n int, s api.Span) bool { return s.Lo <= n && n <= s.Hi }

func count(set int) int { return bits.OnesCount(uint(set)) }

func has(set, n int) bool { return set>>n&1 == 1 }

func full(many int) int { return 1<<many - 1 }

// truth is one way in which all can be so, if readings are left out that are not right.
type truth struct {
	deviations [api.PairBlocks]int
	zero, rate int
}

// shows takes away what is left over before it divides, so that nothing is rounded.
func (so truth) shows(minute int) int {
	drift := so.rate * minute
	over := (drift%10 + 10) % 10
	return so.zero + (drift-over)/10
}

// rightReads returns the set of the readings that are right.
func (so truth) rightReads(p api.Pair) int {
	set := 0
	for i, r := range p.Reads {
		if inside(so.deviations[r.A]-so.deviations[r.B]+so.shows(r.Minute), r.Diff) {
			set |= 1 << i
		}
	}
	return set
}

// each goes through all deviations, zeros and rates of a pair, whatever was read.
func each(p api.Pair, visit func(truth)) {
	var so truth
	var choose func(block int)
	choose = func(block int) {
		if block == len(p.Blocks) {
			visit(so)
			return
		}
		for n := p.Blocks[block].Lo; n <= p.Blocks[block].Hi; n++ {
			so.deviations[block] = n
			choose(block + 1)
		}
	}
	for so.zero = p.Zero.Lo; so.zero <= p.Zero.Hi; so.zero++ {
		for so.rate = p.Rate.Lo; so.rate <= p.Rate.Hi; so.rate++ {
			choose(0)
		}
	}
}

// model is a plan, and how wide each block is by each set of readings.
type model struct {
	api.Plan
	truthful bool
	wide     [][api.PairBlocks]int
}

func modelOf(p api.Plan) model {
	type ends [api.PairBlocks]api.Span
	rights := map[int]ends{}
	each(p.Pair, func(so truth) {
		right := so.rightReads(p.Pair)
		s, had := rights[right]
		for block, n := range so.deviations {
			s[block] = joined(s[block], span(n, n), had)
		}
		rights[right] = s
	})
	all := full(len(p.Pair.Reads))
	_, truthful := rights[all]
	m := model{p, truthful, make([][api.PairBlocks]int, all+1)}
	for set := range all + 1 {
		var known ends
		any := false
		for right, s := range rights {
			if right&set != set {
				continue
			}
			for block := range known {
				known[block] = joined(known[block], s[block], any)
			}
			any = true
		}
		for block, s := range known {
			m.wide[set][block] = s.Hi - s.Lo
		}
	}
	return m
}

// joined returns the span from the least to the greatest number of two, or the second one alone if there is no first one.
func joined(a, b api.Span, had bool) api.Span {
	if !had {
		return b
	}
	return span(min(a.Lo, b.Lo), max(a.Hi, b.Hi))
}

func (m model) all() int { return full(len(m.Pair.Reads)) }

func (m model) blocks(set int) int {
	well := 0
	for block := range m.Pair.Blocks {
		if m.wide[set][block] <= m.Wide {
			well |= 1 << block
		}
	}
	return well
}

func (m model) widest(set int) int { return slices.Max(m.wide[set][:len(m.Pair.Blocks)]) }

func (m model) together(set int) int {
	sum := 0
	for block := range m.Pair.Blocks {
		sum += m.wide[set][block]
	}
	return sum
}

func (m model) enough(set int) bool { return m.blocks(set) == full(len(m.Pair.Blocks)) }

func (m model) price(set int) int {
	sum := 0
	for i, price := range m.Prices {
		if has(set, i) {
			sum += price
		}
	}
	return sum
}

// least returns the set that suits whose numbers are least, the first one first; -1 if none suits.
func (m model) least(suits func(set int) bool, numbers func(set int) []int) int {
	best := -1
	for set := range m.all() + 1 {
		if suits(set) && (best < 0 || slices.Compare(numbers(set), numbers(best)) < 0) {
			best = set
		}
	}
	return best
}

func (m model) fewest() int {
	return m.least(m.enough, func(set int) []int { return []int{count(set), set} })
}

func (m model) cheapest() int {
	return m.least(m.enough, func(set int) []int { return []int{m.price(set), count(set), set} })
}

func (m model) best(many int) int {
	return m.least(func(set int) bool { return count(set) <= many }, func(set int) []int { return []int{m.widest(set), count(set), set} })
}

func (m model) closed() int {
	groups := modelGroups(m.Pair)
	return m.least(func(set int) bool { return modelGroups(kept(m.Pair, set)) == groups }, func(set int) []int { return []int{count(set), set} })
}

func (m model) needed() int {
	set := 0
	for i := range m.Pair.Reads {
		if !m.enough(m.all() &^ (1 << i)) {
			set |= 1 << i
		}
	}
	return set
}

func (m model) order() []int {
	var list []int
	for taken := 0; !m.enough(taken); {
		best := -1
		for i := range m.Pair.Reads {
			if !has(taken, i) && (best < 0 || m.together(taken|1<<i) < m.together(taken|1<<best)) {
				best = i
			}
		}
		list = append(list, best)
		taken |= 1 << best
	}
	return list
}

// kept returns a pair with the readings of a set alone.
func kept(p api.Pair, set int) api.Pair {
	all := p.Reads
	p.Reads = nil
	for i, r := range all {
		if has(set, i) {
			p.Reads = append(p.Reads, r)
		}
	}
	return p
}

// modelGroups gives each block a colour, and paints groups that hang together alike until nothing changes.
func modelGroups(p api.Pair) int {
	colours := make([]int, len(p.Blocks))
	for i := range colours {
		colours[i] = i
	}
	for range p.Blocks {
		for _, r := range p.Reads {
			least := min(colours[r.A], colours[r.B])
			colours[r.A], colours[r.B] = least, least
		}
	}
	kinds := map[int]bool{}
	for _, c := range colours {
		kinds[c] = true
	}
	return len(kinds)
}

// chance is a row of numbers that look random and are always the same.
type chance uint64

func (c *chance) below(n int) int {
	*c = *c*6364136223846793005 + 1442695040888963407
	return int(uint64(*c) >> 33 % uint64(n))
}

func (c *chance) between(lo, hi int) int { return lo + c.below(hi-lo+1) }

// around returns a span within lo to hi that contains n, and is at most so wide.
func (c *chance) around(n, wide, lo, hi int) api.Span {
	s := span(n-c.between(0, wide), n)
	s.Hi = s.Lo + c.between(n-s.Lo, wide)
	return span(max(s.Lo, lo), min(s.Hi, hi))
}

// order returns the first so many numbers, in any order.
func (c *chance) order(many int) []int {
	var list []int
	for n := range many {
		list = slices.Insert(list, c.between(0, n), n)
	}
	return list
}

// plan returns a plan, and what truly is so of it if none of its readings was misread. A small one is one of which the model can go through all truths.
func (c *chance) plan(misread, small bool) (p api.Plan, is truth) {
	p.Pair, is = c.pair(misread, small)
	dear := []int{0, 3, api.PlanPrice - 3}[c.below(3)]
	for _, r := range p.Pair.Reads {
		price := c.between(0, 3)
		if r.Diff.Hi-r.Diff.Lo < c.between(0, 8) {
			price += dear
		}
		p.Prices = append(p.Prices, price)
	}
	p.Wide = c.wide(p.Pair)
	return p, is
}

// wide returns how well blocks have to be known: for most pairs just so well that some readings are enough, and without any they are not.
func (c *chance) wide(p api.Pair) int {
	all := full(len(p.Reads))
	wide := c.between(0, api.PlanWide)
	for range c.between(0, 5) {
		wide = widestOf(kept(p, c.between(0, all)|c.between(0, all)))
		if wide < widestOf(kept(p, 0)) {
			break
		}
	}
	return max(0, wide-c.below(8)/7)
}

// widestOf returns how wide the widest block of a pair is; 0 if it has no truth.
func widestOf(p api.Pair) int {
	wide := 0
	for block := range p.Blocks {
		s, _ := pair.Known(p, block)
		wide = max(wide, s.Hi-s.Lo)
	}
	return wide
}

func (c *chance) pair(misread, small bool) (p api.Pair, is truth) {
	blocks := []int{1, 2, 2, 3, 3, 3, 4, 4, 4, 5}[c.below(10)]
	is.zero, is.rate = c.between(-10, 10), c.between(-5, 5)
	most := c.between(0, 4)
	p.Zero = c.around(is.zero, c.between(0, most), -10, 10)
	p.Rate = c.around(is.rate, c.between(0, most), -5, 5)
	p.Blocks = make([]api.Span, blocks)
	room := 2000
	for at, i := range c.order(blocks) {
		is.deviations[i] = c.between(-20, 20)
		wide := c.between(0, 80)
		if at == 0 {
			// From a block that is known well the others are, by readings.
			wide = c.between(0, []int{2, 2, 80}[c.below(3)])
		}
		if small {
			wide = min(wide, 40, room-1)
			room /= wide + 1
		}
		p.Blocks[i] = c.around(is.deviations[i], wide, -20, 20)
	}
	if blocks > 1 {
		for range c.between(c.below(3), []int{3, 8, 8}[c.below(3)]) {
			p.Reads = append(p.Reads, c.reading(p, is, misread && c.below(8) == 0))
		}
	}
	return p, is
}

// reading returns a reading, some times one that was made before.
func (c *chance) reading(p api.Pair, is truth, misread bool) api.PairRead {
	if len(p.Reads) > 0 && c.below(6) == 0 {
		return p.Reads[c.below(len(p.Reads))]
	}
	a := c.below(len(p.Blocks))
	b := (a + c.between(1, len(p.Blocks)-1)) % len(p.Blocks)
	minute := c.between(0, 60)
	diff := is.deviations[a] - is.deviations[b] + is.shows(minute)
	if misread {
		diff = max(-80, min(80, diff+c.between(-9, 9)))
	}
	return api.PairRead{A: a, B: b, Minute: minute, Diff: c.around(diff, []int{2, 6, 12, 30}[c.below(4)], -80, 80)}
}
