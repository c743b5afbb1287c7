package settle

import (
	"iter"
	"math"

	"blockworks/api"
)

// excess is by how much a block is warmer than the plate; below 0 it is colder.
type excess int

// fallen returns the excess in the next minute of a block that is so slow and is not touched.
func (x excess) fallen(slow int) excess {
	if x < 0 {
		return -(-x).fallen(slow)
	}
	return x - dividedUp(x, excess(slow))
}

func (x excess) isTooCold(near int) bool { return int(x) < -near }

func (x excess) isTooWarm(near int) bool { return int(x) > near }

func (x excess) isNear(near int) bool { return !x.isTooCold(near) && !x.isTooWarm(near) }

// longer returns by how much a block is longer that grows so much with each step of warmth.
func (x excess) longer(grows int) int { return dividedDown(grows*int(x), api.SettleTen) }

// dividedUp divides a number that is not below 0, and rounds up.
func dividedUp[N ~int](n, by N) N { return (n + by - 1) / by }

// dividedDown rounds down also below 0: what is left over is taken away before it divides.
func dividedDown(n, by int) int {
	over := (n%by + by) % by
	return (n - over) / by
}

// heated returns what becomes of an excess by heats.
func heated(x excess, heats ...excess) excess {
	for _, h := range heats {
		x += h
	}
	return x
}

// ends is the least and the greatest excess that a block can have.
type ends [2]excess

// outermostOf returns the least and the greatest of all ends, of which there has to be one.
func outermostOf(all iter.Seq[ends]) ends {
	most := ends{math.MaxInt, math.MinInt}
	for e := range all {
		most = ends{min(most[0], e[0]), max(most[1], e[1])}
	}
	return most
}

func (e ends) span() api.Span { return api.Span{Lo: int(e[0]), Hi: int(e[1])} }

// longer returns by how much a block is longer. As it grows steadily with the excess, and with what it grows, nothing between the ends of both tells more.
func (e ends) longer(grows api.Span) api.Span {
	least, greatest := endsBy(grows, e[0].longer), endsBy(grows, e[1].longer)
	return api.Span{Lo: least.Lo, Hi: greatest.Hi}
}

// endsBy returns the span of what is told of both ends of a span, the lesser number first.
func endsBy(s api.Span, told func(int) int) api.Span {
	a, b := told(s.Lo), told(s.Hi)
	return api.Span{Lo: min(a, b), Hi: max(a, b)}
}

// are returns whether something is so of both ends.
func (e ends) are(so func(excess, int) bool, near int) bool { return so(e[0], near) && so(e[1], near) }

// judge returns whether a block has settled that can have each excess between the ends: never, perhaps, or always.
func (e ends) judge(near int) int {
	switch {
	case e.are(excess.isNear, near):
		return api.SettleAlways
	case e.are(excess.isTooCold, near), e.are(excess.isTooWarm, near):
		return api.SettleNever
	}
	return api.SettlePerhaps
}
