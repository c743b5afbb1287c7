package plan

import (
	"slices"

	"blockworks/api"
	"blockworks/pair"
)

// known is how wide each block is by a set of readings. A block that is not there is 0 wide, so that it makes no difference.
type known struct {
	wide [api.PairBlocks]int
}

// lab is a valid plan with a truth, and how well blocks are known by the sets of readings that were asked for, as the same ones are asked for again and again.
type lab struct {
	api.Plan
	by map[set]known
}

// labOf returns the lab of a valid plan, which has to have a truth.
func labOf(p api.Plan) lab {
	needTruth(p)
	return lab{p, map[set]known{}}
}

// enoughLab returns the lab of a plan of which all readings have to be enough.
func enoughLab(p api.Plan) lab {
	needPlan(p)
	l := labOf(p)
	if !l.isEnough(l.all()) {
		panic(api.ErrNone)
	}
	return l
}

// all returns the set of all readings.
func (l lab) all() set { return fullSet(len(l.Pair.Reads)) }

// knownBy returns how well blocks are known by a set of readings.
func (l lab) knownBy(s set) known {
	k, had := l.by[s]
	if !had {
		k = knownOf(readBy(l.Pair, s))
		l.by[s] = k
	}
	return k
}

func knownOf(p api.Pair) known {
	var k known
	for block := range p.Blocks {
		within := right(pair.Known(p, block))
		k.wide[block] = within.Hi - within.Lo
	}
	return k
}

// readBy returns a pair with the readings of a set alone.
func readBy(p api.Pair, s set) api.Pair {
	p.Reads = only(p.Reads, s.has)
	return p
}

// widest returns how wide the widest block is.
func (l lab) widest(s set) int {
	k := l.knownBy(s)
	return slices.Max(k.wide[:])
}

// together returns how wide all blocks are together.
func (l lab) together(s set) int {
	k := l.knownBy(s)
	return sum(k.wide[:]...)
}

// price returns what readings cost together.
func (l lab) price(s set) int { return sum(only(l.Prices, s.has)...) }

// wellKnown returns the set of the blocks that are known well enough.
func (l lab) wellKnown(s set) set {
	k := l.knownBy(s)
	var blocks set
	for block := range l.Pair.Blocks {
		if k.wide[block] <= l.Wide {
			blocks = blocks.with(block)
		}
	}
	return blocks
}

func (l lab) isEnough(s set) bool { return l.widest(s) <= l.Wide }
