package wear_test

import (
	"math/bits"
	"slices"

	"blockworks/api"
)

// The model works each answer out once more, as slowly and as directly as the document's words allow: it goes through all lengths that there can be, use by use.

func span(lo, hi int) api.Span { return api.Span{Lo: lo, Hi: hi} }

func inside(n int, s api.Span) bool { return s.Lo <= n && n <= s.Hi }

func size(set int) int { return bits.OnesCount(uint(set)) }

func has(set, n int) bool { return set>>n&1 == 1 }

func uses(many int) api.WearEvent { return api.WearEvent{Kind: api.WearUses, Uses: many} }

func read(lo, hi int) api.WearEvent { return api.WearEvent{Kind: api.WearRead, Span: span(lo, hi)} }

func lap(lo, hi int) api.WearEvent { return api.WearEvent{Kind: api.WearLap, Span: span(lo, hi)} }

// numbers is a set of integers.
type numbers map[int]bool

// taken returns the numbers that are left of some once an integer of a span was taken off.
func (n numbers) taken(off api.Span) numbers {
	left := numbers{}
	for length := range n {
		for o := off.Lo; o <= off.Hi; o++ {
			left[length-o] = true
		}
	}
	return left
}

// within returns the numbers that are within a span.
func (n numbers) within(s api.Span) numbers {
	left := numbers{}
	for length := range n {
		if inside(length, s) {
			left[length] = true
		}
	}
	return left
}

// below returns how many numbers are less than a limit.
func (n numbers) below(limit int) int {
	many := 0
	for length := range n {
		if length < limit {
			many++
		}
	}
	return many
}

// ends returns the least and the greatest number, and whether all integers between are there.
func (n numbers) ends() (s api.Span, all bool) {
	first := true
	for length := range n {
		if first {
			s, first = span(length, length), false
		}
		s = span(min(s.Lo, length), max(s.Hi, length))
	}
	return s, len(n) == s.Hi-s.Lo+1
}

func (n numbers) put(more numbers) {
	for length := range more {
		n[length] = true
	}
}

// step returns all lengths after an event, of those before it.
func step(before numbers, e api.WearEvent, use api.Span) numbers {
	switch e.Kind {
	case api.WearRead:
		return before.within(e.Span)
	case api.WearLap:
		return before.taken(e.Span)
	}
	for range e.Uses {
		before = before.taken(use)
	}
	return before
}

// follow returns the lengths at first and after each event, of all truths that begin with one of some lengths.
func follow(w api.Wear, first numbers) []numbers {
	lists := []numbers{first}
	for i, e := range w.Events {
		lists = append(lists, step(lists[i], e, w.Use))
	}
	for i, e := range slices.Backward(w.Events) {
		kept := numbers{}
		for length := range lists[i] {
			for next := range step(numbers{length: true}, e, w.Use) {
				if lists[i+1][next] {
					kept[length] = true
				}
			}
		}
		lists[i] = kept
	}
	return lists
}

// every returns all integers of a span.
func every(s api.Span) numbers {
	all := numbers{}
	for n := s.Lo; n <= s.Hi; n++ {
		all[n] = true
	}
	return all
}

func truthful(w api.Wear) bool { return len(follow(w, every(w.Length))[0]) > 0 }

// model is which lengths a block can have at first and after each event, and how much it can have lost, of all truths.
type model struct {
	w     api.Wear
	after []numbers
	lost  numbers
}

func modelOf(w api.Wear) model {
	m := model{w: w, after: follow(w, every(w.Length)), lost: numbers{}}
	// A length at first of which there is a truth is followed alone.
	for first := range m.after[0] {
		lists := follow(w, numbers{first: true})
		for last := range lists[len(lists)-1] {
			m.lost[first-last] = true
		}
	}
	return m
}

func (m model) truthful() bool { return len(m.after[0]) > 0 }

func (m model) last() numbers { return m.after[len(m.after)-1] }

func (m model) below(limit int) (surely, perhaps int) {
	for i, lengths := range m.after[1:] {
		if lengths.below(limit) == len(lengths) {
			surely |= 1 << i
		}
		if lengths.below(limit) > 0 {
			perhaps |= 1 << i
		}
	}
	return surely, perhaps
}

func (m model) until(limit int) [2]any {
	at := m.last()
	for n := 0; n <= 100; n++ {
		switch {
		case at.below(limit) == 0:
			at = at.taken(m.w.Use)
		case n == 0:
			return none()
		default:
			return number(n - 1)
		}
	}
	return number(100)
}

func (m model) day(limit int, days []int) [2]any {
	at := m.last()
	for day, many := range days {
		at = step(at, uses(many), m.w.Use)
		if at.below(limit) > 0 {
			return number(day)
		}
	}
	return none()
}

func (m model) fits(shows api.Span) [2]any {
	switch len(m.last().within(shows)) {
	case len(m.last()):
		return number(api.WearAlways)
	case 0:
		return number(api.WearNever)
	}
	return number(api.WearPerhaps)
}

// only returns a block without all reads but those of a set.
func only(w api.Wear, reads int) api.Wear {
	var kept []api.WearEvent
	for i, e := range w.Events {
		if e.Kind != api.WearRead || has(reads, i) {
			kept = append(kept, e)
		}
	}
	w.Events = kept
	return w
}

// reads returns the set of the reads of a block.
func reads(w api.Wear) int {
	set := 0
	for i, e := range w.Events {
		if e.Kind == api.WearRead {
			set |= 1 << i
		}
	}
	return set
}

func (m model) clash() [2]any {
	if m.truthful() {
		return none()
	}
	best, all := reads(m.w), reads(m.w)
	for set := range all {
		if set&^all == 0 && (size(set) < size(best) || size(set) == size(best) && set < best) && !truthful(only(m.w, set)) {
			best = set
		}
	}
	return number(best)
}

// chance is a row of numbers that look random and are always the same.
type chance uint64

func (c *chance) below(n int) int {
	*c = *c*6364136223846793005 + 1442695040888963407
	return int(uint64(*c) >> 33 % uint64(n))
}

func (c *chance) between(lo, hi int) int { return lo + c.below(hi-lo+1) }

// around returns a span within lo to hi that contains n, and is at most so wide.
func (c *chance) around(n, wide, lo, hi int) api.Span {
	s := span(n-c.between(0, wide), n)
	s.Hi = s.Lo + c.between(n-s.Lo, wide)
	return span(max(s.Lo, lo), min(s.Hi, hi))
}

// truth is how long a block truly was at first, and after each event.
type truth struct {
	first int
	after []int
}

func (is truth) last() int { return append([]int{is.first}, is.after...)[len(is.after)] }

// worn returns what is left of a length after so many uses.
func (c *chance) worn(length, many int, use api.Span) int {
	for range many {
		length -= c.between(use.Lo, use.Hi)
	}
	return length
}

// block returns a block of at most so many events, and what truly is so of it if none of its readings was misread.
func (c *chance) block(most int, misread bool) (w api.Wear, is truth) {
	is.first = c.between(0, []int{20, 300}[c.below(2)])
	w.Length = c.around(is.first, []int{0, 5, 20}[c.below(3)], 0, api.WearLength)
	w.Use = c.around(c.between(0, 3), c.between(0, 3), 0, api.WearUse)
	for range c.between(0, most) {
		e, now := c.event(is.last(), w.Use, misread && c.below(3) == 0)
		w.Events = append(w.Events, e)
		is.after = append(is.after, now)
	}
	return w, is
}

// event returns what can befall a block, and how long it truly is then.
func (c *chance) event(length int, use api.Span, misread bool) (api.WearEvent, int) {
	switch c.below(5) {
	case 0, 1:
		n := c.between(0, []int{2, 6, 20}[c.below(3)])
		return uses(n), c.worn(length, n, use)
	case 2:
		off := c.between(0, api.WearOff)
		return api.WearEvent{Kind: api.WearLap, Span: c.around(off, c.between(0, 4), 0, api.WearOff)}, length - off
	}
	return c.reading(length, misread), length
}

func (c *chance) reading(length int, misread bool) api.WearEvent {
	if misread {
		length += c.between(-20, 20)
	}
	return api.WearEvent{Kind: api.WearRead, Span: c.around(length, []int{0, 4, 20, 100}[c.below(4)], -api.WearShows, api.WearShows)}
}

// near returns a limit that is near to the lengths of a block.
func (c *chance) near(is truth) int {
	all := append([]int{is.first}, is.after...)
	return all[c.below(len(all))] + c.between(-[]int{3, 12, 150}[c.below(3)], 6)
}

func (c *chance) days() []int {
	var list []int
	most := []int{0, 2, 20}[c.below(3)]
	for range c.between(0, api.WearDays) {
		list = append(list, c.between(0, most))
	}
	return list
}

// clone returns a block that shares no memory with another one.
func clone(w api.Wear) api.Wear {
	w.Events = slices.Clone(w.Events)
	return w
}

// with returns a block to which something more befell, as the event of that number.
func with(w api.Wear, i int, e api.WearEvent) api.Wear {
	w.Events = slices.Insert(slices.Clone(w.Events), i, e)
	return w
}
