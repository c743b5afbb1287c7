package colour

import "iter"

// choice is some things of which one is chosen: which of them suit, and what each one costs.
type choice[T any] struct {
	all   iter.Seq[T]
	suits func(T) bool
	cost  func(T) int
}

// chosen is one of some things, and what it costs.
type chosen[T any] struct {
	one  T
	cost int
}

// least returns the first of the things that cost least of those that suit, and whether there is one.
func least[T any](c choice[T]) (found chosen[T], exists bool) {
	for one := range c.all {
		cost := c.cost(one)
		if (!exists || cost < found.cost) && c.suits(one) {
			found, exists = chosen[T]{one, cost}, true
		}
	}
	return found, exists
}
