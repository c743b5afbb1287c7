package pair

import "blockworks/api"

const (
	// mark stands behind all blocks, as one that never deviates, so that the deviation of a block is a difference like all others.
	mark   = api.PairBlocks
	places = api.PairBlocks + 1
)

// gaps tells by how much each block can be longer than each other one, at most, with one comparator: the element b of the element a is by how much a can be greater than b. It is always complete: no bound follows from others that is not in it.
type gaps [places][places]int

// unknown returns the gaps of blocks of which nothing is known but the limit that all of them keep to.
func unknown() gaps {
	var all gaps
	for a := range mark {
		all[a][mark], all[mark][a] = api.PairDeviates, api.PairDeviates
		for b := range mark {
			if a != b {
				all[a][b] = 2 * api.PairDeviates
			}
		}
	}
	return all
}

// unread returns by how much blocks can differ before anything is read.
func unread(blocks []api.Span) gaps {
	all := unknown()
	for block := range mark {
		// A block that is not there is taken to be as short as any can be, so that it keeps no other one from being longest.
		by := api.Span{Lo: -api.PairDeviates, Hi: -api.PairDeviates}
		if block < len(blocks) {
			by = blocks[block]
		}
		all.narrow(steady{two{block, mark}, by}, comparator{})
	}
	return all
}

// narrow puts a bound to the others, and returns whether all of them can hold; if not, the gaps tell nothing any more.
func (g *gaps) narrow(more bound, c comparator) bool {
	of, by := more.between(), more.leaves(c)
	return g.limit(of.a, of.b, by.Hi) && g.limit(of.b, of.a, -by.Lo)
}

// limit puts to the others that a is greater than b by most, at most.
func (g *gaps) limit(a, b, most int) bool {
	if along(most, g[b][a]) < 0 {
		return false
	}
	for i := range g {
		way := along(g[i][a], most)
		if way >= g[i][b] {
			// By this way i is bound to b no closer than before, and so to all that b is bound to.
			continue
		}
		for j := range g {
			g[i][j] = min(g[i][j], along(way, g[b][j]))
		}
	}
	return true
}

// along puts bounds together, of which each begins where the one before it ends.
func along(steps ...int) int {
	way := 0
	for _, step := range steps {
		way += step
	}
	return way
}

// differ returns by how much one of two can be greater than the other one.
func (g gaps) differ(of two) api.Span {
	return api.Span{Lo: -g[of.b][of.a], Hi: g[of.a][of.b]}
}

// surelyLongest returns whether no other block can be longer than a block.
func (g gaps) surelyLongest(block int) bool {
	for other := range mark {
		if g[other][block] > 0 {
			return false
		}
	}
	return true
}

// perhapsLongest returns whether all other blocks can be no longer than a block. As bounds are of two blocks each, what can be so of each other block alone can be so of all of them at the same time.
func (g gaps) perhapsLongest(block int) bool {
	for other := range mark {
		if g[block][other] < 0 {
			return false
		}
	}
	return true
}
