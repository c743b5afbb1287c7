package grade

import (
	"slices"

	"blockworks/api"
)

// height is by how much a point of a block differs from the mark.
type height int

// far returns by how much it differs, without its sign.
func (h height) far() int { return int(max(h, -h)) }

// lap returns what becomes of a height if a block is lapped to this one.
func (h height) lap(other height) height { return min(h, other) }

// block is the heights of the points of a block in a truth.
type block [api.GradePoints]height

// each returns a block with what a function makes of each height.
func (b block) each(of func(height) height) block {
	for i, h := range b {
		b[i] = of(h)
	}
	return b
}

// ends is the least and the greatest height of a block.
type ends struct{ least, greatest height }

func (b block) ends() ends { return ends{slices.Min(b[:]), greatest(b[0], b[1:]...)} }

func (b block) off() int {
	e := b.ends()
	return greatest(e.least.far(), e.greatest.far())
}

func (b block) varies() int {
	e := b.ends()
	return int(e.greatest - e.least)
}

// greatest returns the greatest one of some numbers.
func greatest[N ~int](first N, more ...N) N {
	for _, n := range more {
		first = max(first, n)
	}
	return first
}

// look is how a block is looked at: which heights it has then.
type look interface{ heights() block }

// plain looks at a block as it is.
type plain struct{ block block }

func (p plain) heights() block { return p.block }

// lapped looks at a block as it is once it has been lapped to a level.
type lapped struct {
	plain
	level height
}

func (l lapped) heights() block { return l.block.each(l.level.lap) }

// shape is how far a block is off, and by how much it varies. Nothing else of it counts for its grade.
type shape struct{ off, varies int }

func shapeOf(l look) shape {
	b := l.heights()
	return shape{b.off(), b.varies()}
}

func (s shape) keeps(l api.GradeLimit) bool { return s.off <= l.Off && s.varies <= l.Varies }
