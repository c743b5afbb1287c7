package wring_test

import (
	"math/bits"
	"slices"

	"blockworks/api"
)

// The model works each answer out once more, as slowly and as directly as the document's words allow: it goes through all truths, and through all stacks that there are.

func span(lo, hi int) api.Span { return api.Span{Lo: lo, Hi: hi} }

func inside(n int, s api.Span) bool { return s.Lo <= n && n <= s.Hi }

func size(set int) int { return bits.OnesCount(uint(set)) }

func has(set, n int) bool { return set>>n&1 == 1 }

// truth is how long each block truly is, how rough each face, by its number, and the set of the faces that truly are scratched.
type truth struct {
	lengths, roughs []int
	scratched       int
}

// roughness returns how rough a face can be, by its number.
func roughness(w api.Wring, face int) api.Span { return w.Blocks[face/2].Faces[face%2].Rough }

func state(w api.Wring, face int) int { return w.Blocks[face/2].Faces[face%2].State }

// scratches returns all sets of faces that are scratched in some truth, the greater numbers first.
func scratches(w api.Wring) []int {
	var list []int
next:
	for set := 1<<(2*len(w.Blocks)) - 1; set >= 0; set-- {
		for face := range 2 * len(w.Blocks) {
			if has(set, face) && state(w, face) == api.WringWhole || !has(set, face) && state(w, face) == api.WringScratched {
				continue next
			}
		}
		list = append(list, set)
	}
	return list
}

// above and below return the number of a face of a place.
func above(p api.WringPlace) int { return 2*p.Block + p.Up }
func below(p api.WringPlace) int { return 2*p.Block + 1 - p.Up }

// facesAt returns the set of the faces of the joint i of a stack.
func facesAt(stack []api.WringPlace, i int) int { return 1<<above(stack[i]) | 1<<below(stack[i+1]) }

func blocked(w api.Wring, stack []api.WringPlace, i int) bool {
	for _, a := range w.Apart {
		if a.A == stack[i].Block && a.B == stack[i+1].Block || a.B == stack[i].Block && a.A == stack[i+1].Block {
			return true
		}
	}
	return false
}

// breaks returns the first rule that the joint i breaks if some faces are scratched; 0 if it breaks none.
func breaks(w api.Wring, stack []api.WringPlace, i, scratched int) int {
	if blocked(w, stack, i) {
		return api.WringBlocked
	}
	if facesAt(stack, i)&scratched != 0 {
		return api.WringFails
	}
	return 0
}

func (is truth) holds(w api.Wring, stack []api.WringPlace) bool {
	for i := range len(stack) - 1 {
		if breaks(w, stack, i, is.scratched) != 0 {
			return false
		}
	}
	return true
}

func (is truth) film(stack []api.WringPlace) int {
	film := 0
	for i := range len(stack) - 1 {
		film += is.roughs[above(stack[i])] + is.roughs[below(stack[i+1])]
	}
	return film
}

func (is truth) long(stack []api.WringPlace) int {
	long := is.film(stack)
	for _, p := range stack {
		long += is.lengths[p.Block]
	}
	return long
}

func modelCheck(w api.Wring, stack []api.WringPlace) [3]any {
	for i := range len(stack) - 1 {
		for _, scratched := range scratches(w) {
			if rule := breaks(w, stack, i, scratched); rule != 0 {
				return three(i, rule, api.OK)
			}
		}
	}
	return three(0, 0, api.ErrNone)
}

// among returns api.WringAlways if something is so in all of many truths, api.WringNever if in none.
func among(so, many int) int {
	switch so {
	case 0:
		return api.WringNever
	case many:
		return api.WringAlways
	}
	return api.WringPerhaps
}

func modelHolds(w api.Wring, stack []api.WringPlace) int {
	good, all := 0, scratches(w)
	for _, scratched := range all {
		if (truth{scratched: scratched}).holds(w, stack) {
			good++
		}
	}
	return among(good, len(all))
}

// sums returns all numbers that a number of the list and one of the span can be together.
func sums(list map[int]bool, s api.Span) map[int]bool {
	all := map[int]bool{}
	for n := range list {
		for more := s.Lo; more <= s.Hi; more++ {
			all[n+more] = true
		}
	}
	return all
}

// ends returns the least and the greatest number of a list.
func ends(list map[int]bool) api.Span {
	found := span(1<<30, -1<<30)
	for n := range list {
		found = span(min(found.Lo, n), max(found.Hi, n))
	}
	return found
}

func modelFilm(w api.Wring, stack []api.WringPlace) api.Span {
	all := map[int]bool{0: true}
	for i := range len(stack) - 1 {
		all = sums(sums(all, roughness(w, above(stack[i]))), roughness(w, below(stack[i+1])))
	}
	return ends(all)
}

func modelLength(w api.Wring, stack []api.WringPlace) api.Span {
	all := map[int]bool{modelFilm(w, stack).Lo: true, modelFilm(w, stack).Hi: true}
	for _, p := range stack {
		all = sums(all, w.Blocks[p.Block].Length)
	}
	return ends(all)
}

// model is all stacks of a wring, those of equally many places in their order, and what can be scratched.
type model struct {
	w         api.Wring
	stacks    []piled
	scratched []int
}

// piled is a stack, the set of its blocks, the set of the faces of its joints, and whether blocks that must be apart are together in it.
type piled struct {
	stack         []api.WringPlace
	blocks, faces int
	blocked       bool
}

func modelOf(w api.Wring) model {
	m := model{w: w, scratched: scratches(w)}
	var pile func(stack []api.WringPlace, used int)
	pile = func(stack []api.WringPlace, used int) {
		if used != 0 {
			p := piled{stack: slices.Clone(stack), blocks: used}
			for i := range len(stack) - 1 {
				p.faces |= facesAt(stack, i)
				p.blocked = p.blocked || blocked(w, stack, i)
			}
			m.stacks = append(m.stacks, p)
		}
		for place := range 2 * len(w.Blocks) {
			if !has(used, place/2) {
				pile(append(stack, api.WringPlace{Block: place / 2, Up: place % 2}), used|1<<(place/2))
			}
		}
	}
	pile(nil, 0)
	return m
}

// holds returns whether a stack holds in a truth.
func (p piled) holds(scratched int) bool { return !p.blocked && p.faces&scratched == 0 }

// always returns whether a stack holds in each truth.
func (m model) always(p piled) bool {
	for _, scratched := range m.scratched {
		if !p.holds(scratched) {
			return false
		}
	}
	return true
}

// sure returns the stacks of some blocks that hold in each truth.
func (m model) sure(blocks int) []piled {
	var list []piled
	for _, p := range m.stacks {
		if p.blocks == blocks && m.always(p) {
			list = append(list, p)
		}
	}
	return list
}

func (m model) all() int { return 1<<len(m.w.Blocks) - 1 }

func (m model) count() int { return len(m.sure(m.all())) }

func (m model) best() [3]any {
	film, stack := 0, []api.WringPlace(nil)
	for _, p := range m.sure(m.all()) {
		if is := modelFilm(m.w, p.stack).Hi; stack == nil || is < film {
			film, stack = is, p.stack
		}
	}
	if stack == nil {
		return noBest()
	}
	return bestOf(film, stack)
}

func (m model) hope() int {
	if m.count() > 0 {
		return api.WringAlways
	}
	for _, p := range m.stacks {
		for _, scratched := range m.scratched {
			if p.blocks == m.all() && p.holds(scratched) {
				return api.WringPerhaps
			}
		}
	}
	return api.WringNever
}

func (m model) most() [3]any {
	blocks := 0
	for set := 1; set <= m.all(); set++ {
		if size(set) > size(blocks) && len(m.sure(set)) > 0 {
			blocks = set
		}
	}
	return three(size(blocks), blocks, api.OK)
}

func (m model) polish() [3]any {
	faces := -1
	for set := range 1 << (2 * len(m.w.Blocks)) {
		if faces < 0 || size(set) < size(faces) {
			// What blocks must be apart and what stacks there are is as it was.
			changed := model{smoothed(m.w, set), m.stacks, scratches(smoothed(m.w, set))}
			if slices.ContainsFunc(m.stacks, func(p piled) bool { return p.blocks == m.all() && changed.always(p) }) {
				faces = set
			}
		}
	}
	if faces < 0 {
		return three(0, 0, api.ErrNone)
	}
	return three(size(faces), faces, api.OK)
}

// clone returns a wring that shares no memory with another one.
func clone(w api.Wring) api.Wring {
	return api.Wring{Blocks: slices.Clone(w.Blocks), Apart: slices.Clone(w.Apart)}
}

// smoothed returns a wring in which some faces are whole.
func smoothed(w api.Wring, faces int) api.Wring {
	w = clone(w)
	for face := range 2 * len(w.Blocks) {
		if has(faces, face) {
			w.Blocks[face/2].Faces[face%2].State = api.WringWhole
		}
	}
	return w
}

// chance is a row of numbers that look random and are always the same.
type chance uint64

func (c *chance) below(n int) int {
	*c = *c*6364136223846793005 + 1442695040888963407
	return int(uint64(*c) >> 33 % uint64(n))
}

func (c *chance) between(lo, hi int) int { return lo + c.below(hi-lo+1) }

// within returns a span within lo to hi.
func (c *chance) within(lo, hi int) api.Span {
	s := c.between(lo, hi)
	return span(s, c.between(s, hi))
}

// wring returns a wring of at most so many blocks. Often most faces are whole, so that some stacks surely hold, and often roughnesses are few, so that several stacks are as good.
func (c *chance) wring(most int) api.Wring {
	var w api.Wring
	rough := []int{0, 1, 5}[c.below(3)]
	states := [][]int{{0, 0, 0, 0, 1, 2}, {0, 0, 1}, {0, 1, 2}, {0, 0, 0, 2}, {1, 2}, {0}}[c.below(6)]
	face := func() api.WringFace {
		return api.WringFace{Rough: c.within(0, rough), State: states[c.below(len(states))]}
	}
	for range c.between(1, most) {
		w.Blocks = append(w.Blocks, api.WringBlock{Length: c.within(1, api.WringLength), Faces: [2]api.WringFace{face(), face()}})
	}
	if len(w.Blocks) > 1 {
		for range []int{0, c.below(3), c.below(api.WringAparts + 1)}[c.below(3)] {
			order := c.order(len(w.Blocks))
			w.Apart = append(w.Apart, api.WringApart{A: order[0], B: order[1]})
		}
	}
	return w
}

// order returns the first so many numbers, in any order.
func (c *chance) order(many int) []int {
	var list []int
	for n := range many {
		list = slices.Insert(list, c.between(0, n), n)
	}
	return list
}

// stack returns a stack of some blocks of a wring.
func (c *chance) stack(w api.Wring) []api.WringPlace {
	var stack []api.WringPlace
	for _, b := range c.order(len(w.Blocks))[:c.between(1, len(w.Blocks))] {
		stack = append(stack, api.WringPlace{Block: b, Up: c.below(2)})
	}
	return stack
}

func (c *chance) truth(w api.Wring) truth {
	var is truth
	for b, block := range w.Blocks {
		is.lengths = append(is.lengths, c.between(block.Length.Lo, block.Length.Hi))
		for side, f := range block.Faces {
			is.roughs = append(is.roughs, c.between(f.Rough.Lo, f.Rough.Hi))
			if f.State == api.WringScratched || f.State == api.WringMaybe && c.below(2) == 0 {
				is.scratched |= 1 << (2*b + side)
			}
		}
	}
	return is
}
