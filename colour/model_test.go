package colour_test

import (
	"math/bits"
	"slices"

	"blockworks/api"
)

// The model works each answer out once more, as slowly and as directly as the document's words allow: it counts parts, and it looks at any two lengths.

func made(waves, prices []int, lo, hi, every, wrong int) api.Colour {
	return api.Colour{Waves: waves, Prices: prices, Length: api.Span{Lo: lo, Hi: hi}, Every: every, Error: wrong}
}

func ints(list ...int) []int { return list }

func clone(c api.Colour) api.Colour {
	c.Waves, c.Prices = slices.Clone(c.Waves), slices.Clone(c.Prices)
	return c
}

// partOf takes whole fringes away and counts the parts that are left, so that nothing is divided.
func partOf(wave, length int) int {
	for length >= wave {
		length -= wave
	}
	part := 0
	for (part+1)*wave <= 20*length {
		part++
	}
	return part
}

// round goes up from one part to the other one, from the last one to 0, and counts the steps; the other way round it is the rest.
func round(one, other int) int {
	up := 0
	for at := one; at != other; at = (at + 1) % 20 {
		up++
	}
	return min(up, 20-up)
}

func apart(c api.Colour, colour, a, b int) int {
	return round(partOf(c.Waves[colour], a), partOf(c.Waves[colour], b))
}

// parting returns the set of the colours that part two lengths.
func parting(c api.Colour, a, b int) int {
	set := 0
	for colour := range c.Waves {
		if apart(c, colour, a, b) > c.Error+c.Error {
			set += 1 << colour
		}
	}
	return set
}

func lengthsOf(c api.Colour) []int {
	var list []int
	for length := c.Length.Lo; length <= c.Length.Hi; length += c.Every {
		list = append(list, length)
	}
	return list
}

func has(set, n int) bool { return set>>n&1 == 1 }

func count(set int) int { return bits.OnesCount(uint(set)) }

// model is a valid colour, its lengths, and for any two of them, by their places, the colours that part them.
type model struct {
	api.Colour
	lengths []int
	by      [][]int
}

func modelOf(c api.Colour) model {
	m := model{Colour: c, lengths: lengthsOf(c)}
	for _, a := range m.lengths {
		var row []int
		for _, b := range m.lengths {
			row = append(row, parting(c, a, b))
		}
		m.by = append(m.by, row)
	}
	return m
}

func (m model) all() int { return 1<<len(m.Waves) - 1 }

// alike returns any two lengths that a set does not part, in their order.
func (m model) alike(set int) [][2]int {
	var list [][2]int
	for i, a := range m.lengths {
		for j, b := range m.lengths {
			if i < j && m.by[i][j]&set == 0 {
				list = append(list, [2]int{a, b})
			}
		}
	}
	return list
}

// partsAll looks at any two lengths in both orders, and at none together with itself.
func (m model) partsAll(set int) bool {
	for i, row := range m.by {
		for j, by := range row {
			if i != j && by&set == 0 {
				return false
			}
		}
	}
	return true
}

func (m model) firstAlike(set int) [3]any {
	list := m.alike(set)
	if len(list) == 0 {
		return noTwo()
	}
	return both(list[0][0], list[0][1])
}

func (m model) pairs(set int) [3]any {
	worst := 0
	for _, row := range m.by {
		many := 0
		for _, by := range row {
			if by&set == 0 {
				many++
			}
		}
		worst = max(worst, many)
	}
	return both(len(m.alike(set)), worst)
}

// reach tries all lengths, the greatest one first.
func (m model) reach(set int) int {
	alike := m.alike(set)
	for _, length := range slices.Backward(m.lengths) {
		if !slices.ContainsFunc(alike, func(pair [2]int) bool { return pair[1] <= length }) {
			return length
		}
	}
	panic("one length alone is reached by all sets")
}

func (m model) price(set int) int {
	sum := 0
	for colour, price := range m.Prices {
		if has(set, colour) {
			sum += price
		}
	}
	return sum
}

// least returns the least cost of a set that parts all, and the least set of it.
func (m model) least(cost func(set int) int) [3]any {
	best := -1
	for set := m.all(); set >= 0; set-- {
		if m.partsAll(set) && (best < 0 || cost(set) <= cost(best)) {
			best = set
		}
	}
	if best < 0 {
		return noTwo()
	}
	return both(cost(best), best)
}

func (m model) fewest() [3]any { return m.least(count) }

func (m model) cheapest() [3]any { return m.least(m.price) }

func (m model) spare(set int) [2]any {
	if !m.partsAll(set) {
		return refused()
	}
	colours := 0
	for colour := range m.Waves {
		if has(set, colour) && m.partsAll(set-1<<colour) {
			colours += 1 << colour
		}
	}
	return number(colours)
}

func (m model) next(set int) [3]any {
	best, left := -1, 0
	for colour := range m.Waves {
		if has(set, colour) {
			continue
		}
		if many := len(m.alike(set + 1<<colour)); best < 0 || many < left {
			best, left = colour, many
		}
	}
	if best < 0 {
		return noTwo()
	}
	return both(best, left)
}

// isValid returns whether a colour is valid; it looks at all numbers before it subtracts any.
func isValid(c api.Colour) bool {
	fine := len(c.Waves) >= 1 && len(c.Waves) <= 6 && len(c.Prices) == len(c.Waves)
	for _, wave := range c.Waves {
		fine = fine && wave >= 2 && wave <= 60
	}
	for _, price := range c.Prices {
		fine = fine && price >= 0 && price <= 50
	}
	fine = fine && c.Length.Lo >= 0 && c.Length.Lo <= c.Length.Hi && c.Length.Hi <= 2000
	return fine && c.Length.Hi-c.Length.Lo <= 200 && c.Every >= 1 && c.Every <= 20 && c.Error >= 0 && c.Error <= 4
}

// chance is a row of numbers that look random and are always the same.
type chance uint64

func (c *chance) below(n int) int {
	*c = *c*6364136223846793005 + 1442695040888963407
	return int(uint64(*c) >> 33 % uint64(n))
}

func (c *chance) between(lo, hi int) int { return lo + c.below(hi-lo+1) }

func (c *chance) one(of ...int) int { return of[c.below(len(of))] }

// order returns the first so many numbers, in any order.
func (c *chance) order(many int) []int {
	var list []int
	for n := range many {
		list = slices.Insert(list, c.between(0, n), n)
	}
	return list
}

// wave returns any wave, or one of those by whose parts the lengths go that are counted easily.
func (c *chance) wave() int {
	if c.below(3) == 0 {
		return c.one(2, 10, 20, 30, 40, 60)
	}
	return c.between(2, 60)
}

// colour returns a colour with so many lengths at most.
func (c *chance) colour(lengths int) api.Colour {
	p := api.Colour{Every: c.between(1, c.one(1, 3, 20)), Error: c.one(0, 0, 1, 1, 2, 3, 4)}
	for range c.between(1, c.one(2, 4, 6, 6)) {
		p.Waves = append(p.Waves, c.wave())
		p.Prices = append(p.Prices, c.between(0, c.one(0, 1, 4, 10, 50)))
	}
	wide := c.between(0, min(200, p.Every*lengths-1))
	p.Length.Lo = c.between(0, 2000-wide)
	p.Length.Hi = p.Length.Lo + wide
	return p
}

// set returns a set of the colours that there are.
func (c *chance) set(p api.Colour) int { return c.below(1 << len(p.Waves)) }

// length returns one of the lengths.
func (c *chance) length(p api.Colour) int {
	list := lengthsOf(p)
	return list[c.below(len(list))]
}

// readings returns what is read of a length in each colour, each reading being wrong by Error at most.
func (c *chance) readings(p api.Colour, length int) []int {
	var list []int
	for _, wave := range p.Waves {
		list = append(list, (partOf(wave, length)+c.between(-p.Error, p.Error)+20)%20)
	}
	return list
}

// agreeing returns the lengths that agree with what was read in the colours of a set.
func agreeing(p api.Colour, set int, readings []int) []int {
	var list []int
	for _, length := range lengthsOf(p) {
		agrees := true
		for colour, read := range readings {
			agrees = agrees && (!has(set, colour) || round(partOf(p.Waves[colour], length), read) <= p.Error)
		}
		if agrees {
			list = append(list, length)
		}
	}
	return list
}
