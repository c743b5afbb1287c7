package wring

import (
	"iter"

	"blockworks/api"
)

// state is which blocks a stack has, and what lies above. Of a stack without blocks nothing does.
type state struct {
	used set[int]
	top  api.WringPlace
}

func (s state) with(next api.WringPlace) state { return state{s.used.with(next.Block), next} }

// fits returns whether a place that follows breaks no rule.
func (l look) fits(at state, next api.WringPlace) bool {
	return at.used == 0 || l.broken(seam{at.top, next}) == keeps
}

// film returns how thick the film below a place that follows is, at most.
func (l look) film(at state, next api.WringPlace) int {
	if at.used == 0 {
		return 0
	}
	return l.films.at(seam{at.top, next}).Hi
}

// next returns the places of blocks that can follow, in their order.
func (l look) next(at state, blocks set[int]) iter.Seq[api.WringPlace] {
	return func(yield func(api.WringPlace) bool) {
		for block := range api.WringBlocks {
			if !blocks.has(block) || at.used.has(block) {
				continue
			}
			for up := range sides {
				place := api.WringPlace{Block: block, Up: up}
				if l.fits(at, place) && !yield(place) {
					return
				}
			}
		}
	}
}

// rest is in how many ways a stack can be gone on with until it has all blocks, and by how little film more.
type rest struct{ ways, film int }

// or returns what there is by one rest and by another one together.
func (r rest) or(other rest) rest {
	switch {
	case r.ways == 0:
		return other
	case other.ways == 0:
		return r
	}
	return rest{r.ways + other.ways, min(r.film, other.film)}
}

// rests returns a function that tells the rest of each stack of some blocks. Stacks of the same blocks with the same place above have the same rest, which is worked out once.
func (l look) rests(blocks set[int]) func(state) rest {
	known := map[state]rest{}
	var from func(at state) rest
	from = func(at state) rest {
		if at.used == blocks {
			return rest{ways: 1}
		}
		if had, ok := known[at]; ok {
			return had
		}
		var all rest
		for next := range l.next(at, blocks) {
			more := from(at.with(next))
			more.film += l.film(at, next)
			all = all.or(more)
		}
		known[at] = all
		return all
	}
	return from
}

// stacks returns how many stacks of exactly these blocks hold.
func (l look) stacks(blocks set[int]) int { return l.rests(blocks)(state{}).ways }

// thinnest is the stack of the least film, and this film.
type thinnest struct {
	film  int
	stack []api.WringPlace
}

// best returns the stack of exactly these blocks that holds with the least film, of several the first one, and whether there is one.
func (l look) best(blocks set[int]) (found thinnest, exists bool) {
	from := l.rests(blocks)
	whole := from(state{})
	if whole.ways == 0 {
		return found, false
	}
	found.film = whole.film
	at, left := state{}, whole.film
grow:
	for range blocks.size() {
		// The first place that still leads to the least film begins the first such stack.
		for next := range l.next(at, blocks) {
			more := from(at.with(next))
			if more.ways > 0 && l.film(at, next)+more.film == left {
				found.stack = append(found.stack, next)
				at, left = at.with(next), more.film
				continue grow
			}
		}
	}
	return found, true
}
