package job

// count is what is counted of a plan; one of which less is counted is better. No stack counts less than 1.
type count interface {
	of(p plan) int
}

// stacks counts the stacks of a plan. Of the same wants all plans count the same, so that the first one that is found will do.
type stacks struct{}

// made returns the stacks of a plan.
func (stacks) made(p plan) []set {
	var list []set
	for _, by := range p {
		if by != 0 {
			list = append(list, by)
		}
	}
	return list
}

func (s stacks) of(p plan) int { return len(s.made(p)) }

// blocks counts the blocks of all stacks together.
type blocks struct{ stacks }

func (b blocks) of(p plan) int { return joined(b.made(p)...).size() }
