package wring

import "blockworks/api"

// sides is how many faces a block has.
const sides = 2

// face is the number of a face.
type face int

func faceOf(block, side int) face { return face(sides*block + side) }

func (f face) block() int { return int(f) / sides }

func (f face) side() int { return int(f) % sides }

// seam is a joint: two places, one behind the other.
type seam struct{ lower, upper api.WringPlace }

// faces returns the two faces of a joint: that of the lower block that is above, and that of the upper one that is below.
func (s seam) faces() (lower, upper face) {
	return faceOf(s.lower.Block, s.lower.Up), faceOf(s.upper.Block, sides-1-s.upper.Up)
}

// seamsOf returns the joints of a stack, from below to above.
func seamsOf(stack []api.WringPlace) []seam {
	var list []seam
	for i, upper := range stack[1:] {
		list = append(list, seam{stack[i], upper})
	}
	return list
}

// film is how thick a film is, from the least to the greatest of all truths.
type film api.Span

func (f film) span() api.Span { return api.Span(f) }

// films is how much each face adds to a film, by its number: how rough it is.
type films [sides * api.WringBlocks]film

func filmsOf(w api.Wring) films {
	var all films
	for b, block := range w.Blocks {
		for side, f := range block.Faces {
			all[faceOf(b, side)] = film(f.Rough)
		}
	}
	return all
}

// at returns the film of a joint.
func (f films) at(s seam) film {
	lower, upper := s.faces()
	return film(add(f[lower].span(), f[upper].span()))
}

// lengthOf returns how long a stack is: its blocks, and the films of its joints.
func lengthOf(w api.Wring, stack []api.WringPlace) api.Span {
	blocks := each(stack, func(p api.WringPlace) api.Span { return w.Blocks[p.Block].Length })
	joints := each(seamsOf(stack), filmsOf(w).at)
	return add(add(blocks...), add(each(joints, film.span)...))
}

// add returns what spans are together: as none depends on another one, all their ends can be so at the same time.
func add(spans ...api.Span) api.Span {
	var all api.Span
	for _, s := range spans {
		all.Lo += s.Lo
		all.Hi += s.Hi
	}
	return all
}

// each returns what a function makes of each element.
func each[A, B any](list []A, of func(A) B) []B {
	var made []B
	for _, element := range list {
		made = append(made, of(element))
	}
	return made
}
