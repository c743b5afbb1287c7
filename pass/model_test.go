package pass_test

import (
	"math/bits"
	"slices"

	"blockworks/api"
)

// The model works each answer out once more, as slowly and as directly as the document's words allow: it writes all chains down, one by one.

const standard = -1

func paper(of, by, wrong, year, drift int) api.PassPaper {
	return api.PassPaper{Of: of, By: by, Wrong: wrong, Year: year, Drift: drift}
}

func holds(p api.Pass, c api.PassPaper, year int) bool {
	for y := c.Year; y <= c.Year+p.Age; y++ {
		if y == year {
			return true
		}
	}
	return false
}

// adds counts the years, so that nothing is multiplied.
func adds(c api.PassPaper, year int) int {
	sum := c.Wrong
	for y := c.Year; y < year; y++ {
		sum += c.Drift
	}
	return sum
}

// isChain returns whether a list is a chain of an item in a year.
func isChain(p api.Pass, list []int, item, year int) bool {
	for i, n := range list {
		c := p.Papers[n]
		if c.Of != item || !holds(p, c, year) || slices.Contains(list[:i], n) {
			return false
		}
		item, year = c.By, c.Year
	}
	return len(list) > 0 && item == standard
}

// added returns what all certificates of a chain add.
func added(p api.Pass, list []int, year int) int {
	sum := 0
	for _, n := range list {
		sum += adds(p.Papers[n], year)
		year = p.Papers[n].Year
	}
	return sum
}

// chains returns all chains of an item in a year, those that begin with a certificate of a lesser number first.
func chains(p api.Pass, item, year int) [][]int {
	var all [][]int
	var follow func(list []int, item, year int)
	follow = func(list []int, item, year int) {
		if item == standard {
			all = append(all, slices.Clone(list))
			return
		}
		for n, c := range p.Papers {
			if c.Of == item && holds(p, c, year) && !slices.Contains(list, n) {
				follow(append(list, n), c.By, c.Year)
			}
		}
	}
	follow(nil, item, year)
	return all
}

// best returns the chain that is told, and whether there is one.
func best(p api.Pass, item, year int) (chain []int, exists bool) {
	isLess := func(a, b []int) bool {
		x, y := added(p, a, year), added(p, b, year)
		switch {
		case x != y:
			return x < y
		case len(a) != len(b):
			return len(a) < len(b)
		}
		return slices.Compare(a, b) < 0
	}
	for _, one := range chains(p, item, year) {
		if !exists || isLess(one, chain) {
			chain, exists = one, true
		}
	}
	return chain, exists
}

// unbounded is more than any bound, and stands for none.
const unbounded = 1 << 20

// bound returns the bound of an item in a year, and unbounded if there is none.
func bound(p api.Pass, item, year int) int {
	chain, exists := best(p, item, year)
	if !exists {
		return unbounded
	}
	return added(p, chain, year)
}

func boundOrNone(p api.Pass, item, year int) [2]any { return orNone(bound(p, item, year)) }

// orNone is what a call returns with a number, or with none if that is unbounded.
func orNone(n int) [2]any {
	if n >= unbounded {
		return none()
	}
	return number(n)
}

func chainOrNone(p api.Pass, item, year int) [2]any {
	chain, exists := best(p, item, year)
	if !exists {
		return noList()
	}
	return list(chain...)
}

// items returns the set of the items of which something is so.
func items(p api.Pass, so func(item int) bool) int {
	set := 0
	for item := range p.Items {
		if so(item) {
			set += 1 << item
		}
	}
	return set
}

func known(p api.Pass, year int) int {
	return items(p, func(item int) bool { return bound(p, item, year) < unbounded })
}

func until(p api.Pass, item, year, limit int) [2]any {
	last := none()
	for y := year; y <= api.PassYears && bound(p, item, y) <= limit; y++ {
		last = number(y)
	}
	return last
}

func together(p api.Pass, set, year int) [2]any {
	sum := 0
	for item := range p.Items {
		if set>>item&1 == 1 {
			sum += bound(p, item, year)
		}
	}
	return orNone(sum)
}

// without returns the certificates without one of them.
func without(p api.Pass, n int) api.Pass {
	p.Papers = slices.Concat(p.Papers[:n], p.Papers[n+1:])
	return p
}

// with returns the certificates, and some more.
func with(p api.Pass, more ...api.PassPaper) api.Pass {
	p.Papers = slices.Concat(p.Papers, more)
	return p
}

func recall(p api.Pass, n, year int) [3]any {
	left := without(p, n)
	worse := items(p, func(item int) bool { return bound(p, item, year) < bound(left, item, year) })
	lost := items(p, func(item int) bool {
		return bound(p, item, year) < unbounded && bound(left, item, year) == unbounded
	})
	return sets(worse, lost)
}

// renewing returns the certificates, and those of a set once more, written in a year.
func renewing(p api.Pass, set, year int) api.Pass {
	for n, c := range slices.Clone(p.Papers) {
		if set>>n&1 == 1 {
			p = with(p, paper(c.Of, c.By, c.Wrong, year, c.Drift))
		}
	}
	return p
}

// reaches returns whether an item has a chain in a year that adds no more than a limit. As there can be twice as many certificates as otherwise, it passes over chains that come to the same item in the same year again: without what is between they add no more.
func reaches(p api.Pass, item, year, limit int, been ...[2]int) bool {
	if item == standard {
		return limit >= 0
	}
	here := [2]int{item, year}
	if limit < 0 || slices.Contains(been, here) {
		return false
	}
	been = append(slices.Clone(been), here)
	for _, c := range p.Papers {
		if c.Of == item && holds(p, c, year) && reaches(p, c.By, c.Year, limit-adds(c, year), been...) {
			return true
		}
	}
	return false
}

func allReach(p api.Pass, year, limit int) bool {
	for item := range p.Items {
		if !reaches(p, item, year, limit) {
			return false
		}
	}
	return true
}

func renew(p api.Pass, year, limit int) [2]any {
	for many := range len(p.Papers) + 1 {
		for set := range 1 << len(p.Papers) {
			if bits.OnesCount(uint(set)) == many && allReach(renewing(p, set, year), year, limit) {
				return number(set)
			}
		}
	}
	return none()
}

// clone returns certificates that share no memory with other ones.
func clone(p api.Pass) api.Pass {
	p.Papers = slices.Clone(p.Papers)
	return p
}

// chance is a row of numbers that look random and are always the same.
type chance uint64

func (c *chance) below(n int) int {
	*c = *c*6364136223846793005 + 1442695040888963407
	return int(uint64(*c) >> 33 % uint64(n))
}

func (c *chance) between(lo, hi int) int { return lo + c.below(hi-lo+1) }

func (c *chance) one(of ...int) int { return of[c.below(len(of))] }

// order returns the first so many numbers, in any order.
func (c *chance) order(many int) []int {
	var list []int
	for n := range many {
		list = slices.Insert(list, c.between(0, n), n)
	}
	return list
}

// paper returns a certificate of one of so many items that is written up to a year, and adds little, or a lot.
func (c *chance) paper(items, last int) api.PassPaper {
	of, by := c.below(items), c.between(0, items-1)
	if by == of || c.below(5) == 0 {
		by = standard
	}
	return paper(of, by, c.between(0, c.one(0, 2, 6, 50)), c.between(0, last), c.between(0, c.one(0, 1, 3, 10)))
}

// pass returns certificates, often with more than one of an item, and sometimes with items each of which was measured by the one before it.
func (c *chance) pass() api.Pass {
	p := api.Pass{Items: c.between(1, c.one(2, 4, 6, 6)), Age: c.one(0, 2, 6, 20, 20)}
	last := c.one(0, 2, 6, 20)
	for range c.one(0, 2, 5, 7, 8, 8, 8) {
		p.Papers = append(p.Papers, c.paper(p.Items, last))
	}
	if c.below(2) == 0 {
		order := append([]int{standard}, c.order(p.Items)...)
		for n := range p.Papers {
			at := 1 + n%p.Items
			p.Papers[n].Of, p.Papers[n].By, p.Papers[n].Year = order[at], order[at-1], last*at/8
		}
	}
	return p
}

// truth is how far items truly are wrong, by item and year.
type truth [api.PassItems][2*api.PassYears + 1]int

// wrong returns how far an item, or the standard, truly is wrong.
func (is truth) wrong(item, year int) int {
	if item == standard {
		return 0
	}
	return is[item][year]
}

// truth returns how far items truly are wrong, which grows and shrinks from year to year.
func (c *chance) truth() (is truth) {
	for item := range is {
		wrong := c.below(10)
		for year := range is[item] {
			wrong = max(0, wrong+c.between(-c.one(2, 20), c.one(2, 5)))
			is[item][year] = wrong
		}
	}
	return is
}

// certified returns certificates that are as true as can be: none of them is more wrong than it has to be.
func (c *chance) certified(is truth) api.Pass {
	p := c.pass()
	var papers []api.PassPaper
	for _, one := range p.Papers {
		one.Wrong = 0
		for year := one.Year; year <= one.Year+p.Age; year++ {
			one.Wrong = max(one.Wrong, is.wrong(one.Of, year)-is.wrong(one.By, one.Year)-adds(paper(0, 0, 0, one.Year, one.Drift), year))
		}
		if one.Wrong <= api.PassWrong {
			papers = append(papers, one)
		}
	}
	p.Papers = papers
	return p
}
