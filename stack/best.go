package stack

import "blockworks/api"

// choice is which candidates count, and whether one of two is better than the other one.
type choice[T any] struct {
	counts func(T) bool
	better func(a, than T) bool
}

// best returns the best of the candidates that count, of several the first one, and whether there is one.
func best[T any](by choice[T], candidates ...T) (found T, exists bool) {
	for _, candidate := range candidates {
		if by.counts(candidate) && (!exists || by.better(candidate, found)) {
			found, exists = candidate, true
		}
	}
	return found, exists
}

// offer is a stack, and by how much its length misses what is wanted.
type offer struct {
	stack
	miss int
}

func (o offer) nearer(than offer) bool { return o.miss < than.miss }

// before returns whether an offer is the better one of two with as many blocks.
func (o offer) before(than offer) bool {
	return o.nearer(than) || o.miss == than.miss && o.stack < than.stack
}

// nearest returns the stack that misses what is asked by least, of several the one of the fewest blocks, and of these the least number; and whether there is one.
func nearest(all lengths, ask question) (found offer, exists bool) {
	var row [api.StackBlocks + 1]offer
	alike := choice[offer]{offer.isOne, offer.before}
	for length, one := range all.stacks() {
		row[length.blocks], _ = best(alike, row[length.blocks], offer{one, ask.miss(length.Span)})
	}
	return best(choice[offer]{offer.isOne, offer.nearer}, row[:]...)
}
