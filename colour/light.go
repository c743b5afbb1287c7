package colour

import (
	"iter"

	"blockworks/api"
	"blockworks/fringe"
)

// two is two lengths.
type two struct{ a, b int }

// light is a valid colour, and what was worked out of it: which parts lengths leave, and which colours part two of them, as both are asked for again and again.
type light struct {
	api.Colour
	left   map[int]parts
	parted map[two]colourSet
}

// lightOf returns the light of a colour, which has to be valid.
func lightOf(c api.Colour) light {
	needValid(c)
	return light{c, map[int]parts{}, map[two]colourSet{}}
}

// all returns the set of all colours.
func (l light) all() colourSet { return 1<<len(l.Waves) - 1 }

// from returns the lengths from one of them on.
func (l light) from(first int) iter.Seq[int] {
	return func(yield func(int) bool) {
		for length := first; length <= l.Length.Hi; length += l.Every {
			if !yield(length) {
				return
			}
		}
	}
}

// greatest returns the greatest of the lengths.
func (l light) greatest() int {
	return l.Length.Hi - (l.Length.Hi-l.Length.Lo)%l.Every
}

// pairs returns any two of the lengths, the lesser one first: those with the least lesser one first, and of these the ones with the least greater one.
func (l light) pairs() iter.Seq[two] {
	return func(yield func(two) bool) {
		for a := range l.from(l.Length.Lo) {
			for b := range l.from(a + l.Every) {
				if !yield(two{a, b}) {
					return
				}
			}
		}
	}
}

// alike returns those of the pairs that a set of colours does not part.
func (l light) alike(by colourSet) iter.Seq[two] {
	return func(yield func(two) bool) {
		for of := range l.pairs() {
			if !l.isParted(of, by) && !yield(of) {
				return
			}
		}
	}
}

func (l light) isParted(of two, by colourSet) bool { return l.partedBy(of)&by != 0 }

// partedBy returns the set of the colours that part two lengths.
func (l light) partedBy(of two) colourSet {
	by, had := l.parted[of]
	if !had {
		for colour, apart := range l.apart(of) {
			if apart > 2*l.Error {
				by = by.with(colour)
			}
		}
		l.parted[of] = by
	}
	return by
}

// apart returns by how much two lengths are apart, in each colour.
func (l light) apart(of two) [api.ColourColours]int {
	one, other := l.partsOf(of.a), l.partsOf(of.b)
	return one.against(other, part.apart)
}

// partsOf returns which parts a length leaves.
func (l light) partsOf(length int) parts {
	left, had := l.left[length]
	if !had {
		for colour := range l.Waves {
			left[colour] = l.partIn(colour, length)
		}
		l.left[length] = left
	}
	return left
}

func (l light) partIn(colour, length int) part {
	_, left, e := fringe.Part(l.alone(colour), length, 0)
	if e != api.OK {
		panic(e)
	}
	return part(left)
}

// alone returns the fringe of one colour, as there can be more colours than a fringe may have. Its wave is copied, as the waves are the caller's.
func (l light) alone(colour int) api.Fringe {
	wave := make([]int, 1)
	copy(wave, l.Waves[colour:])
	return api.Fringe{Waves: wave}
}
