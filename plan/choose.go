package plan

import (
	"slices"

	"blockworks/api"
	"blockworks/pair"
)

// costly is a set of readings, and its cost.
type costly struct {
	reads set
	cost  int
}

func costlyOf(s set, cost func(s set) int) costly { return costly{s, cost(s)} }

// leastEnough returns the first set by a measure that is enough; the set of all has to be.
func (l lab) leastEnough(by measure) set {
	return first(search[set]{ranked(len(l.Pair.Reads), by), l.isEnough})
}

// needed returns the readings that are in each set that is enough. It is enough to leave out one at a time, as with more readings no block is known less well.
func (l lab) needed() set {
	needed := l.all()
	for rest := range l.all().changed(len(l.Pair.Reads), set.without) {
		if l.isEnough(rest) {
			needed &= rest
		}
	}
	return needed
}

// best returns the first set of at most so many readings by which the widest block is least wide.
func (l lab) best(many int) set {
	compare := compareBy(byCost{cost: l.widest})
	var found set
sets:
	for s := range ranked(len(l.Pair.Reads), bySize{}) {
		switch {
		case s.size() > many:
			// The sets come by their size, so none that follows has fewer readings.
			break sets
		case compare(s, found) < 0:
			found = s
		}
	}
	return found
}

// order returns the readings in the order in which each of them makes blocks together least wide, until they are enough; all of them have to be.
func (l lab) order() []int {
	var list []int
	var take func(taken set)
	take = func(taken set) {
		if l.isEnough(taken) {
			return
		}
		more := slices.Collect(taken.changed(len(l.Pair.Reads), set.with))
		next := slices.MinFunc(more, compareBy(byCost{cost: l.together}))
		list = append(list, (next &^ taken).least())
		take(next)
	}
	take(0)
	return list
}

// closed returns the fewest readings by which there are as few groups as by all.
func closed(p api.Pair) set {
	few := right(pair.Groups(p))
	return first(search[set]{ranked(len(p.Reads), bySize{}), func(s set) bool {
		return right(pair.Groups(readBy(p, s))) == few
	}})
}
