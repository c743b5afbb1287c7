package settle_test

import (
	"slices"

	"blockworks/api"
)

// The model works each answer out once more, as slowly and as directly as the document's words allow: it follows all excesses that there can be, minute by minute, for each number that a block can be as slow as.

func span(lo, hi int) api.Span { return api.Span{Lo: lo, Hi: hi} }

func exactly(n int) api.Span { return span(n, n) }

func inside(n int, s api.Span) bool { return s.Lo <= n && n <= s.Hi }

func touch(block, minute, lo, hi int) api.SettleTouch {
	return api.SettleTouch{Block: block, Minute: minute, Heat: span(lo, hi)}
}

// fall looks for the least whole number by which an excess falls, so that nothing is divided.
func fall(x, slow int) int {
	size, sign := x, 1
	if x < 0 {
		size, sign = -x, -1
	}
	by := 0
	for by*slow < size {
		by++
	}
	return x - sign*by
}

// grown looks for the greatest whole number of tenths, so that nothing is divided.
func grown(x, grows int) int {
	n := -1000
	for (n+1)*10 <= x*grows {
		n++
	}
	return n
}

func near(x, near int) bool { return -near <= x && x <= near }

// numbers is a set of integers.
type numbers map[int]bool

func every(s api.Span) numbers {
	all := numbers{}
	for n := s.Lo; n <= s.Hi; n++ {
		all[n] = true
	}
	return all
}

func (n numbers) fallen(slow int) numbers {
	later := numbers{}
	for x := range n {
		later[fall(x, slow)] = true
	}
	return later
}

func (n numbers) heated(heat api.Span) numbers {
	later := numbers{}
	for x := range n {
		for h := heat.Lo; h <= heat.Hi; h++ {
			later[x+h] = true
		}
	}
	return later
}

// model is a settle, and the excesses that each block can have: by block, minute, and slowness.
type model struct {
	api.Settle
	excesses [][][]numbers
}

func modelOf(s api.Settle) model {
	m := model{Settle: s}
	for block := range s.Blocks {
		m.excesses = append(m.excesses, excessesOf(s, block, s.Last))
	}
	return m
}

func excessesOf(s api.Settle, block, last int) [][]numbers {
	b := s.Blocks[block]
	minutes := make([][]numbers, last+1)
	for slow := b.Slow.Lo; slow <= b.Slow.Hi; slow++ {
		now := every(b.Excess)
		for minute := range minutes {
			if minute > 0 {
				now = now.fallen(slow)
			}
			for _, t := range s.Touches {
				if t.Block == block && t.Minute == minute {
					now = now.heated(t.Heat)
				}
			}
			minutes[minute] = append(minutes[minute], now)
		}
	}
	return minutes
}

// ends returns the least and the greatest number that a function tells of excesses.
func ends(excesses []numbers, tell func(x int) int) api.Span {
	var s api.Span
	first := true
	for _, some := range excesses {
		for x := range some {
			n := tell(x)
			if first {
				s, first = exactly(n), false
			}
			s = span(min(s.Lo, n), max(s.Hi, n))
		}
	}
	return s
}

func itself(x int) int { return x }

func (m model) excess(block, minute int) api.Span { return ends(m.excesses[block][minute], itself) }

func (m model) longer(block, minute int) api.Span {
	var s api.Span
	for grows := m.Blocks[block].Grows.Lo; grows <= m.Blocks[block].Grows.Hi; grows++ {
		more := ends(m.excesses[block][minute], func(x int) int { return grown(x, grows) })
		if grows == m.Blocks[block].Grows.Lo {
			s = more
		}
		s = span(min(s.Lo, more.Lo), max(s.Hi, more.Hi))
	}
	return s
}

// judge returns whether excesses are near: all, some, or none.
func judge(excesses []numbers, nearness int) int {
	all, some := true, false
	for _, set := range excesses {
		for x := range set {
			all = all && near(x, nearness)
			some = some || near(x, nearness)
		}
	}
	switch {
	case all:
		return api.SettleAlways
	case some:
		return api.SettlePerhaps
	}
	return api.SettleNever
}

func (m model) settled(block, minute int) int { return judge(m.excesses[block][minute], m.Near) }

func (m model) when(blocks ...int) [2]any {
	for first := range m.Last + 1 {
		all := true
		for minute := first; minute <= m.Last; minute++ {
			for _, block := range blocks {
				all = all && m.settled(block, minute) == api.SettleAlways
			}
		}
		if all {
			return number(first)
		}
	}
	return none()
}

func (m model) all() [2]any {
	var blocks []int
	for block := range m.Blocks {
		blocks = append(blocks, block)
	}
	return m.when(blocks...)
}

// rests begins a span where the minute before was none, and ends it where the next one is none.
func (m model) rests(block int) []api.Span {
	is := func(minute int) bool {
		return 0 <= minute && minute <= m.Last && m.settled(block, minute) == api.SettleAlways
	}
	var list []api.Span
	for minute := range m.Last + 1 {
		if is(minute) && !is(minute-1) {
			list = append(list, exactly(minute))
		}
		if is(minute) && !is(minute+1) {
			list[len(list)-1].Hi = minute
		}
	}
	return list
}

func (m model) wait(block, excess int) [2]any {
	most := 0
	for slow := m.Blocks[block].Slow.Lo; slow <= m.Blocks[block].Slow.Hi; slow++ {
		minutes := 0
		for x := excess; !near(x, m.Near); x = fall(x, slow) {
			minutes++
		}
		most = max(most, minutes)
	}
	return number(most)
}

func (m model) latest(block, heat, by int) [2]any {
	found := none()
	for minute := range by + 1 {
		s := with(m.Settle, touch(block, minute, heat, heat))
		if judge(excessesOf(s, block, by)[by], m.Near) == api.SettleAlways {
			found = number(minute)
		}
	}
	return found
}

// clone returns a settle that shares no memory with another one.
func clone(s api.Settle) api.Settle {
	s.Blocks, s.Touches = slices.Clone(s.Blocks), slices.Clone(s.Touches)
	return s
}

// with returns a settle with touches more.
func with(s api.Settle, more ...api.SettleTouch) api.Settle {
	s.Touches = slices.Concat(s.Touches, more)
	return s
}

// chance is a row of numbers that look random and are always the same.
type chance uint64

func (c *chance) below(n int) int {
	*c = *c*6364136223846793005 + 1442695040888963407
	return int(uint64(*c) >> 33 % uint64(n))
}

func (c *chance) between(lo, hi int) int { return lo + c.below(hi-lo+1) }

func (c *chance) one(of ...int) int { return of[c.below(len(of))] }

// around returns a span within lo to hi that contains n, and is at most so wide.
func (c *chance) around(n, wide, lo, hi int) api.Span {
	s := span(n-c.between(0, wide), n)
	s.Hi = s.Lo + c.between(n-s.Lo, wide)
	return span(max(s.Lo, lo), min(s.Hi, hi))
}

// order returns the first so many numbers, in any order.
func (c *chance) order(many int) []int {
	var list []int
	for n := range many {
		list = slices.Insert(list, c.between(0, n), n)
	}
	return list
}

// block is how warm, slow and growing a block truly is.
type block struct{ excess, slow, grows int }

// truth is how blocks truly are, and how warm touches truly make them.
type truth struct {
	blocks []block
	heats  []int
}

// course returns what the excess of a block truly is in each minute.
func (is truth) course(s api.Settle, block int) []int {
	var list []int
	x := is.blocks[block].excess
	for minute := range s.Last + 1 {
		if minute > 0 {
			x = fall(x, is.blocks[block].slow)
		}
		for i, t := range s.Touches {
			if t.Block == block && t.Minute == minute {
				x += is.heats[i]
			}
		}
		list = append(list, x)
	}
	return list
}

// settle returns a settle, and what truly is so of it.
func (c *chance) settle() (s api.Settle, is truth) {
	s.Near, s.Last = c.between(0, c.one(0, 3, 8, 20)), c.between(1, c.one(3, 12, 25, 60))
	for range c.between(1, api.SettleBlocks) {
		warm := c.one(5, 30, 100)
		b := block{c.between(-warm, warm), c.between(2, 8), c.between(0, 20)}
		s.Blocks = append(s.Blocks, api.SettleBlock{
			Excess: c.around(b.excess, c.one(0, 2, 20, 80), -100, 100),
			Slow:   c.around(b.slow, c.one(0, 1, 6), 2, 8),
			Grows:  c.around(b.grows, c.one(0, 4, 20), 0, 20),
		})
		is.blocks = append(is.blocks, b)
	}
	for range c.between(0, api.SettleTouches) {
		t, heat := c.touch(len(s.Blocks), s.Last)
		s.Touches, is.heats = append(s.Touches, t), append(is.heats, heat)
	}
	return s, is
}

// touch returns a touch of one of so many blocks, and how warm it truly makes it.
func (c *chance) touch(blocks, last int) (api.SettleTouch, int) {
	warm := c.one(5, 30, 100)
	heat := c.between(-warm, warm)
	return api.SettleTouch{
		Block:  c.below(blocks),
		Minute: c.between(0, last),
		Heat:   c.around(heat, c.one(0, 3, 15), -100, 100),
	}, heat
}
