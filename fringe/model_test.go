package fringe_test

import (
	"math/bits"
	"slices"

	"blockworks/api"
)

// The model works each answer out once more, as slowly and as directly as the document's words allow.

func span(lo, hi int) api.Span { return api.Span{Lo: lo, Hi: hi} }

func read(colour, lo, hi int) api.FringeRead {
	return api.FringeRead{Colour: colour, Part: span(lo, hi)}
}

// modelPart counts whole fringes and parts up until one more would be too many.
func modelPart(length, wave int) (whole, part int) {
	for (whole+1)*wave <= length {
		whole++
	}
	rest := length - whole*wave
	for (part+1)*wave <= 20*rest {
		part++
	}
	return whole, part
}

func modelRight(f api.Fringe, r api.FringeRead, length int) bool {
	_, part := modelPart(length, f.Waves[r.Colour])
	for n := r.Part.Lo; n <= r.Part.Hi; n++ {
		if n%20 == part {
			return true
		}
	}
	return false
}

// modelWrong returns, for each length, the set of the readings that are not right of it.
func modelWrong(f api.Fringe) map[int]int {
	wrong := map[int]int{}
	for length := f.Length.Lo; length <= f.Length.Hi; length++ {
		set := 0
		for i, r := range f.Reads {
			if !modelRight(f, r, length) {
				set += 1 << i
			}
		}
		wrong[length] = set
	}
	return wrong
}

// model is what the functions must return for a fringe.
type model struct {
	truths            []int
	spans             []api.Span
	wholes            [][]int
	parts             []int
	period            int
	askColour, asked  int
	wrongMany, wrong  int
	clash             int
	truthful, blocked bool
}

func modelOf(f api.Fringe) model {
	var m model
	wrong := modelWrong(f)
	for length := f.Length.Lo; length <= f.Length.Hi; length++ {
		if wrong[length] == 0 {
			m.truths = append(m.truths, length)
		}
	}
	m.truthful = len(m.truths) > 0
	m.spans = modelSpans(m.truths)
	m.period = modelPeriod(f.Waves)
	m.wrongMany, m.wrong = modelFewestOut(wrong)
	m.clash, m.blocked = modelFewestClash(wrong, len(f.Reads))
	for colour, wave := range f.Waves {
		wholes, parts, most := modelColour(m.truths, wave)
		m.wholes = append(m.wholes, wholes)
		m.parts = append(m.parts, parts)
		if m.truthful && (colour == 0 || most < m.asked) {
			m.askColour, m.asked = colour, most
		}
	}
	return m
}

func modelSpans(truths []int) (spans []api.Span) {
	for i, length := range truths {
		if i == 0 || truths[i-1] != length-1 {
			spans = append(spans, span(length, length))
		}
		spans[len(spans)-1].Hi = length
	}
	return spans
}

func modelPeriod(waves []int) int {
	step := slices.Max(waves)
next:
	for n := step; ; n += step {
		for _, w := range waves {
			if n%w != 0 {
				continue next
			}
		}
		return n
	}
}

func modelColour(truths []int, wave int) (wholes []int, parts, most int) {
	counts := map[int]int{}
	seen := map[int]bool{}
	for _, length := range truths {
		whole, part := modelPart(length, wave)
		if !seen[whole] {
			seen[whole] = true
			wholes = append(wholes, whole)
		}
		counts[part]++
	}
	slices.Sort(wholes)
	for part, n := range counts {
		parts += 1 << part
		most = max(most, n)
	}
	return wholes, parts, most
}

// modelFewestOut: a length is a truth once all readings that are wrong of it are left out, and no fewer.
func modelFewestOut(wrong map[int]int) (many, set int) {
	many = 99
	for _, w := range wrong {
		n := bits.OnesCount(uint(w))
		if n < many || n == many && w < set {
			many, set = n, w
		}
	}
	return many, set
}

func modelFewestClash(wrong map[int]int, reads int) (set int, found bool) {
	for kept := range 1 << reads {
		clashes := true
		for _, w := range wrong {
			clashes = clashes && w&kept != 0
		}
		if clashes && (!found || bits.OnesCount(uint(kept)) < bits.OnesCount(uint(set))) {
			set, found = kept, true
		}
	}
	return set, found
}

// chance is a row of numbers that look random and are always the same.
type chance uint64

func (c *chance) below(n int) int {
	*c = *c*6364136223846793005 + 1442695040888963407
	return int(uint64(*c) >> 33 % uint64(n))
}

func (c *chance) between(lo, hi int) int { return lo + c.below(hi-lo+1) }

// fringe returns a fringe, and a length in it of which those of its readings are right that are not misread.
func (c *chance) fringe() (f api.Fringe, length int) {
	for range c.between(1, 4) {
		f.Waves = append(f.Waves, c.between(2, 60))
	}
	wide := c.between(0, []int{3, 40, 400}[c.below(3)])
	lo := c.between(0, 2000-wide)
	f.Length = span(lo, lo+wide)
	length = c.between(f.Length.Lo, f.Length.Hi)
	misreads := c.below(2) == 0
	for range c.between(0, 6) {
		f.Reads = append(f.Reads, c.reading(f, length, misreads && c.below(2) == 0))
	}
	return f, length
}

func (c *chance) reading(f api.Fringe, length int, misread bool) api.FringeRead {
	colour := c.below(len(f.Waves))
	_, part := modelPart(length, f.Waves[colour])
	if misread {
		part = c.below(20)
	}
	wide := c.between(0, []int{2, 6, 19}[c.below(3)])
	lo := (part - c.between(0, wide) + 20) % 20
	return read(colour, lo, lo+wide)
}
