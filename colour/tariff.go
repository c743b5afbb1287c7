package colour

import "slices"

// tariff tells what sets of colours cost.
type tariff interface {
	of(s colourSet) int
}

// byMany is the tariff by which each colour costs 1.
type byMany struct{}

func (byMany) bought(s colourSet) []int { return slices.Collect(s.colours()) }

func (m byMany) of(s colourSet) int { return len(m.bought(s)) }

// byPrice is the tariff by which each colour has a price of its own.
type byPrice struct {
	byMany
	prices []int
}

func (p byPrice) of(s colourSet) int {
	var paid []int
	for _, colour := range p.bought(s) {
		paid = append(paid, p.prices[colour])
	}
	return sum(paid...)
}

// sum adds numbers up.
func sum(numbers ...int) int {
	all := 0
	for _, n := range numbers {
		all += n
	}
	return all
}
