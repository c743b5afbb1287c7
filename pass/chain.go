package pass

// chain is certificates of which each one is of what the one before it was measured by, and what all of them add together.
type chain struct {
	numbers []int
	bound   int
}

// isLess returns whether a chain has a lesser bound than another one, or the same one by fewer certificates.
func (c chain) isLess(than chain) bool {
	if c.bound != than.bound {
		return c.bound < than.bound
	}
	return len(c.numbers) < len(than.numbers)
}

// joined returns the chain of chains that follow one another.
func joined(parts ...chain) chain {
	var all chain
	for _, part := range parts {
		all.numbers = append(all.numbers, part.numbers...)
		all.bound += part.bound
	}
	return all
}

// known is what is known of a state.
type known interface {
	// after returns what is known of another state that a link leads from to this one.
	after(link chain) known
	isAtMost(limit int) bool
	told() (c chain, exists bool)
}

// untraced is a state from which no chain leads to the standard.
type untraced struct{}

func (untraced) after(chain) known { return untraced{} }

func (untraced) isAtMost(int) bool { return false }

func (untraced) told() (c chain, exists bool) { return chain{}, false }

// traced is a state with a chain.
type traced struct{ chain }

func (t traced) after(link chain) known { return traced{joined(link, t.chain)} }

func (t traced) isAtMost(limit int) bool { return t.bound <= limit }

func (t traced) told() (c chain, exists bool) { return t.chain, true }

func knownBy(c chain, exists bool) known {
	if !exists {
		return untraced{}
	}
	return traced{c}
}
