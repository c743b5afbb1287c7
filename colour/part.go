package colour

import "blockworks/api"

// part is which part of a fringe a length leaves in a colour.
type part int

func (p part) distance(to part) int { return int(max(p-to, to-p)) }

// apart returns by how much two parts differ, going round: each part also is a whole fringe before itself, and after it.
func (p part) apart(other part) int {
	return nearest(p.distance, other-api.FringeParts, other, other+api.FringeParts)
}

// nearest returns the least distance of some parts.
func nearest(distance func(to part) int, one part, others ...part) int {
	least := distance(one)
	for _, other := range others {
		least = min(least, distance(other))
	}
	return least
}

// parts is which part a length leaves in each colour. In a colour that there is not all lengths leave the part 0, so that it parts none.
type parts [api.ColourColours]part

// against returns what there is between the parts of two lengths, in each colour.
func (p parts) against(other parts, between func(one, other part) int) [api.ColourColours]int {
	var all [api.ColourColours]int
	for colour := range all {
		all[colour] = between(p[colour], other[colour])
	}
	return all
}
