package fringe

import (
	"iter"

	"blockworks/api"
)

// reading is what was read in a colour.
type reading interface {
	// right returns whether the reading is right of a length.
	right(length int) bool
}

// plain is a reading whose parts are one run from 0 to the last part.
type plain struct {
	wave   wave
	lo, hi int
}

func (p plain) right(length int) bool {
	part := p.wave.split(length).part
	return p.lo <= part && part <= p.hi
}

// round is a reading whose parts go on from the last part to 0.
type round struct{ plain }

func (r round) right(length int) bool {
	part := r.wave.split(length).part
	return r.lo <= part || part+api.FringeParts <= r.hi
}

func readings(f api.Fringe) []reading {
	list := make([]reading, len(f.Reads))
	for i, r := range f.Reads {
		read := plain{wave(f.Waves[r.Colour]), r.Part.Lo, r.Part.Hi}
		if read.hi < api.FringeParts {
			list[i] = read
		} else {
			list[i] = round{read}
		}
	}
	return list
}

// truths returns the lengths of all truths, the lesser ones first.
func truths(f api.Fringe) iter.Seq[int] {
	return agreeing(f.Length, readings(f))
}

// agreeing returns the lengths of a span of which all readings are right, the lesser ones first.
func agreeing(span api.Span, reads []reading) iter.Seq[int] {
	return func(yield func(int) bool) {
		for length := span.Lo; length <= span.Hi; length++ {
			if allRight(reads, length) && !yield(length) {
				return
			}
		}
	}
}

func allRight(reads []reading, length int) bool {
	for _, r := range reads {
		if !r.right(length) {
			return false
		}
	}
	return true
}

// agree returns whether there is a length of a span of which all readings are right.
func agree(span api.Span, reads []reading) bool {
	for range agreeing(span, reads) {
		return true
	}
	return false
}

// spans returns lengths, which come in order, as the fewest spans.
func spans(lengths iter.Seq[int]) []api.Span {
	var list []api.Span
	for length := range lengths {
		last := len(list) - 1
		if last >= 0 && list[last].Hi+1 == length {
			list[last].Hi = length
		} else {
			list = append(list, api.Span{Lo: length, Hi: length})
		}
	}
	return list
}

// nearest returns which of some lengths, which come in order, differs least from a wish.
func nearest(lengths iter.Seq[int], wish int) int {
	best, found := 0, false
search:
	for length := range lengths {
		switch {
		case !found || distance(length, wish) < distance(best, wish):
			best, found = length, true
		default:
			// Once lengths get no nearer they only go away from the wish.
			break search
		}
	}
	return best
}

func distance(a, b int) int {
	return max(a-b, b-a)
}
