package job

import (
	"slices"

	"blockworks/api"
)

// left is what is left to be met, and the blocks that are free for it.
type left struct{ wants, free set }

// after returns what is left when a want is met by a stack.
func (l left) after(want int, by set) left {
	return left{l.wants.without(want), l.free &^ by}
}

// offer is a right plan for some wants, if there is one.
type offer struct {
	plan
	exists bool
}

// shop is a valid job, the stacks that surely are right for each want, by their numbers, and what finds the best plan of what is left.
type shop struct {
	api.Job
	right [api.JobWants][]set
	meet  func(of left) offer
}

// shopOf returns the shop of a job, which has to be valid, for what is counted of its plans.
func shopOf(j api.Job, by count) shop {
	needJob(j)
	s := shop{Job: j}
	for want := range j.Wants {
		s.right[want] = slices.Collect(those(s.blocks().subsets(), func(one set) bool {
			return one != 0 && isRight(j, want, one)
		}))
	}
	s.meet = s.planner(by)
	return s
}

// wants returns the set of all wants.
func (s shop) wants() set { return fullSet(len(s.Wants)) }

// blocks returns the set of all blocks.
func (s shop) blocks() set { return fullSet(len(s.Stack.Blocks)) }

// planner returns what finds the right plan of what is left of which least is counted, of several the lexicographically first one. What is the same is left by many plans, so that it is worked out once.
func (s shop) planner(by count) func(of left) offer {
	known := map[left]offer{}
	var meet func(of left) offer
	meet = func(of left) offer {
		if of.wants == 0 {
			return offer{make(plan, len(s.Wants)), true}
		}
		best, had := known[of]
		if had {
			return best
		}
		want := of.wants.least()
	stacks:
		for one := range those(slices.Values(s.right[want]), of.free.holds) {
			rest := meet(of.after(want, one))
			if !rest.exists {
				continue
			}
			found := rest.with(want, one)
			switch many := by.of(found); {
			case many == of.wants.size():
				// Each want takes a stack, so no plan counts less, and of those that count as little this one comes first.
				best = offer{found, true}
				break stacks
			case !best.exists || many < by.of(best.plan):
				best = offer{found, true}
			}
		}
		known[of] = best
		return best
	}
	return meet
}
