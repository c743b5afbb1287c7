package pass

import (
	"iter"

	"blockworks/api"
)

// tracer is valid certificates, and what is known of the states that were looked at.
type tracer struct {
	api.Pass
	found map[state]known
}

func tracerOf(p api.Pass) tracer { return tracer{p, map[state]known{}} }

// from returns a state, and those that are reached from it step by step, until there is none.
func (t tracer) from(s state, step func(state) state) iter.Seq[state] {
	return func(yield func(state) bool) {
		for ; s.item < t.Items && s.year <= api.PassYears; s = step(s) {
			if !yield(s) {
				return
			}
		}
	}
}

func (t tracer) items(year int) iter.Seq[state] { return t.from(state{0, year}, state.nextItem) }

// holding returns the certificates of a state that hold.
func (t tracer) holding(s state) iter.Seq[certificate] {
	return only(certificatesOf(t.Pass), s.isMeasuredBy)
}

// table is what is known of all items in a year.
type table [api.PassItems]known

func emptyTable() table {
	var all table
	for item := range all {
		all[item] = untraced{}
	}
	return all
}

// at returns what is known of a state. It is worked out once, as each state asks for it again that was measured by it.
func (t tracer) at(s state) known {
	if s.isStandard() {
		return traced{}
	}
	if _, had := t.found[s]; !had {
		all := t.trace(s.year)
		for each := range t.items(s.year) {
			t.found[each] = all[each.item]
		}
	}
	return t.found[s]
}

// trace returns what is known of all items in a year. Each round lets chains have one certificate more that was written in this very year. As a best chain comes to no item twice in a year, there are no more rounds than items.
func (t tracer) trace(year int) table {
	var after func(rounds int) table
	after = func(rounds int) table {
		if rounds == 0 {
			return emptyTable()
		}
		before, now := after(rounds-1), emptyTable()
		for s := range t.items(year) {
			now[s.item] = knownBy(least(choice[chain]{all: t.chains(s, before), isLess: chain.isLess}))
		}
		return now
	}
	return after(t.Items)
}

// chains returns the best chain of a state by each certificate that holds, if items of the same year are known as they were before.
func (t tracer) chains(s state, before table) iter.Seq[chain] {
	return func(yield func(chain) bool) {
		for c := range t.holding(s) {
			best, exists := t.during(s.year, before, c.source()).after(s.link(c)).told()
			if exists && !yield(best) {
				return
			}
		}
	}
}

// during returns what is known of a state in a round of a year.
func (t tracer) during(year int, before table, s state) known {
	if s.year == year && !s.isStandard() {
		return before[s.item]
	}
	return t.at(s)
}

// areWithin returns whether each of some states has a bound of at most a limit.
func (t tracer) areWithin(limit int, states ...state) bool {
states:
	for _, s := range states {
		for c := range t.holding(s) {
			if t.at(c.source()).after(s.link(c)).isAtMost(limit) {
				continue states
			}
		}
		return false
	}
	return true
}

func (t tracer) isTraced(s state) bool {
	_, exists := t.at(s).told()
	return exists
}

// lastWithin returns the last state up to which an item has a bound of at most a limit, from a year on, and whether there is one.
func (t tracer) lastWithin(limit int, s state) (last state, exists bool) {
	for later := range t.from(s, state.nextYear) {
		if !t.areWithin(limit, later) {
			break
		}
		last, exists = later, true
	}
	return last, exists
}

// setOf returns the set of the items of some states of which it is so.
func setOf(states iter.Seq[state], so func(state) bool) int {
	set := 0
	for s := range only(states, so) {
		set |= 1 << s.item
	}
	return set
}
