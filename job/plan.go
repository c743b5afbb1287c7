package job

import (
	"blockworks/api"
	"blockworks/stack"
)

// plan is a stack for each want, by its number. The empty set is no stack: that want is not met by it.
type plan []set

// with returns the plan in which a want is met by a stack, too. It is a copy, as one plan can be the rest of several ones.
func (p plan) with(want int, by set) plan {
	more := make(plan, len(p))
	copy(more, p)
	more[want] = by
	return more
}

func (p plan) numbers() []int {
	list := make([]int, len(p))
	for want, by := range p {
		list[want] = int(by)
	}
	return list
}

// broken is a want that breaks a rule.
type broken struct{ want, rule int }

// firstBroken returns the first want that breaks a rule of a plan, and whether there is one.
func firstBroken(j api.Job, p plan) (found broken, exists bool) {
	for want := range p {
		if rule := p.breaks(j, want); rule != 0 {
			return broken{want, rule}, true
		}
	}
	return broken{}, false
}

// breaks returns the first rule that a want breaks, or 0 if it breaks none.
func (p plan) breaks(j api.Job, want int) int {
	switch by := p[want]; {
	case !isRight(j, want, by):
		return api.JobWrong
	case joined(p[:want]...)&by != 0:
		return api.JobTwice
	}
	return 0
}

// isRight returns whether a stack surely is right for a want.
func isRight(j api.Job, want int, by set) bool {
	right, e := stack.Right(j.Stack, int(by), j.Wants[want])
	if e != api.OK {
		panic(e)
	}
	return right == api.StackAlways
}
