package settle

import (
	"iter"

	"blockworks/api"
)

// moment is a minute of a block that is so slow.
type moment struct{ block, slow, minute int }

func (m moment) before() moment { return moment{m.block, m.slow, m.minute - 1} }

// plate is a valid settle, and what is known of the moments that were looked at.
type plate struct {
	api.Settle
	known map[moment]ends
}

func plateOf(s api.Settle) plate { return plate{s, map[moment]ends{}} }

// ends returns both ends of an excess in a moment. They are worked out once, as they are asked for again by each moment that follows.
func (p plate) ends(m moment) ends {
	both, had := p.known[m]
	if !had {
		both = p.workOut(m)
		p.known[m] = both
	}
	return both
}

func (p plate) workOut(m moment) ends {
	low, high := endsOf(p.Blocks[m.block], m.slow)
	now := ends{low.start(), high.start()}
	if m.minute > 0 {
		before := p.ends(m.before())
		now = ends{low.next(before[0]), high.next(before[1])}
	}
	return ends{heated(now[0], p.heats(m, low)...), heated(now[1], p.heats(m, high)...)}
}

// heats returns the heats of all touches in a moment.
func (p plate) heats(m moment, e end) []excess {
	var list []excess
	for _, t := range p.Touches {
		if t.Block == m.block && t.Minute == m.minute {
			list = append(list, e.heat(t))
		}
	}
	return list
}

// possible returns the ends of a block's excess in a minute, for each number that it can be as slow as. Each excess between the ends of one of these is that of a truth; between those of two it need not be.
func (p plate) possible(block, minute int) iter.Seq[ends] {
	return func(yield func(ends) bool) {
		slow := p.Blocks[block].Slow
		for n := slow.Lo; n <= slow.Hi; n++ {
			if !yield(p.ends(moment{block, n, minute})) {
				return
			}
		}
	}
}

// outermost returns the ends of a block's excess in a minute, however slow it is.
func (p plate) outermost(block, minute int) ends { return outermostOf(p.possible(block, minute)) }

// judge returns whether a block has settled in a minute: never, perhaps, or always.
func (p plate) judge(block, minute int) int {
	verdict, asked := api.SettlePerhaps, false
	for e := range p.possible(block, minute) {
		one := e.judge(p.Near)
		if asked && one != verdict {
			return api.SettlePerhaps
		}
		verdict, asked = one, true
	}
	return verdict
}

func (p plate) hasSettled(block, minute int) bool {
	return p.judge(block, minute) == api.SettleAlways
}

// settledFrom returns the first minute from which on, to the last one, all of some blocks have settled, and whether there is one.
func (p plate) settledFrom(blocks ...int) (minute int, exists bool) {
minutes:
	for m := range downFrom(p.Last) {
		for _, block := range blocks {
			if !p.hasSettled(block, m) {
				break minutes
			}
		}
		minute, exists = m, true
	}
	return minute, exists
}

// rests returns the minutes in which a block has settled.
func (p plate) rests(block int) []api.Span {
	var list []api.Span
	for m := range upTo(p.Last) {
		last := len(list) - 1
		switch {
		case !p.hasSettled(block, m):
		case last >= 0 && list[last].Hi == m-1:
			list[last].Hi = m
		default:
			list = append(list, exactly(m))
		}
	}
	return list
}

// touched returns a settle with one touch more. It works on a copy of the touches, as they are the caller's.
func touched(s api.Settle, more api.SettleTouch) api.Settle {
	touches := make([]api.SettleTouch, len(s.Touches)+1)
	many := copy(touches, s.Touches)
	touches[many] = more
	s.Touches = touches
	return s
}

// untouched returns a plate with one block of a settle alone, which has just this excess and is never touched.
func untouched(s api.Settle, block, excess int) plate {
	alone := s.Blocks[block]
	alone.Excess = exactly(excess)
	return plateOf(api.Settle{Blocks: []api.SettleBlock{alone}, Near: s.Near})
}
