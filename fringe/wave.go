package fringe

import (
	"iter"

	"blockworks/api"
)

// wave is how long a wave of a colour is. It has a type of its own so that it is never taken for a length.
type wave int

// fraction is how many whole fringes a length has, and which part of one is left.
type fraction struct{ whole, part int }

func waves(f api.Fringe) []wave {
	list := make([]wave, len(f.Waves))
	for i, w := range f.Waves {
		list[i] = wave(w)
	}
	return list
}

func (w wave) split(length int) fraction {
	rest := length % int(w)
	return fraction{whole: length / int(w), part: api.FringeParts * rest / int(w)}
}

// common returns the least common multiple of two waves.
func (w wave) common(other wave) wave {
	divisor, rest := w, other
	for rest != 0 {
		divisor, rest = rest, divisor%rest
	}
	return w / divisor * other
}

// multiply puts waves together, one after the other, as times tells.
func multiply(times func(a, b wave) wave, waves ...wave) wave {
	product := wave(1)
	for _, w := range waves {
		product = times(product, w)
	}
	return product
}

// possible returns each fraction that there is in a colour in some truth, once, those of lesser lengths first.
func possible(f api.Fringe, colour int) []fraction {
	needFringe(f)
	needColour(f, colour)
	needTruth(f)
	return fractions(truths(f), wave(f.Waves[colour]).split)
}

func fractions(lengths iter.Seq[int], split func(length int) fraction) []fraction {
	seen := map[fraction]bool{}
	var list []fraction
	for length := range lengths {
		part := split(length)
		if !seen[part] {
			seen[part] = true
			list = append(list, part)
		}
	}
	return list
}

// mostAlike returns how many lengths leave the part that most of them leave.
func mostAlike(lengths iter.Seq[int], w wave) int {
	var often [api.FringeParts]int
	most := 0
	for length := range lengths {
		part := w.split(length).part
		often[part]++
		most = max(most, often[part])
	}
	return most
}
