package colour

// firstAlike returns the first two of the lengths that a set of colours does not part, and whether there are such.
func (l light) firstAlike(by colourSet) (found two, exists bool) {
	for of := range l.alike(by) {
		return of, true
	}
	return two{}, false
}

func (l light) areAllParted(by colourSet) bool {
	_, exists := l.firstAlike(by)
	return !exists
}

// unparted is how many pairs are not parted, and how many lengths, at most, are not parted from one of them, which is counted, too.
type unparted struct{ pairs, worst int }

func (l light) unpartedBy(by colourSet) unparted {
	left := unparted{worst: 1}
	others := map[int]int{}
	for of := range l.alike(by) {
		others[of.a]++
		others[of.b]++
		left.pairs++
		left.worst = max(left.worst, 1+others[of.a], 1+others[of.b])
	}
	return left
}

// reach returns the greatest of the lengths up to which a set of colours parts any two.
func (l light) reach(by colourSet) int {
	reached := l.greatest()
pairs:
	for of := range l.alike(by) {
		switch {
		case of.a >= reached:
			// Pairs come by their lesser lengths, so all that follow are beyond what is reached.
			break pairs
		case of.b <= reached:
			reached = of.b - l.Every
		}
	}
	return reached
}

// leastParting returns the first of those sets that part all lengths that cost least by a tariff, and whether there is one.
func (l light) leastParting(by tariff) (found chosen[colourSet], exists bool) {
	return least(choice[colourSet]{all: l.sets(), suits: l.areAllParted, cost: by.of})
}

// spare returns those colours of a set without any one of which all lengths are parted.
func (l light) spare(by colourSet) colourSet {
	var spared colourSet
	for colour := range by.colours() {
		if l.areAllParted(by.without(colour)) {
			spared = spared.with(colour)
		}
	}
	return spared
}

// next returns the first of the colours that a set has not with which the fewest pairs are not parted, how many these are, and whether it has not all.
func (l light) next(bought colourSet) (found chosen[int], exists bool) {
	return least(choice[int]{
		all:   l.all().colours(),
		suits: func(colour int) bool { return !bought.has(colour) },
		cost:  func(colour int) int { return l.unpartedBy(bought.with(colour)).pairs },
	})
}
