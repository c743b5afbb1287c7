package job

import (
	"slices"

	"blockworks/api"
	"blockworks/stack"
)

// answer returns what work returns, or the error with which work panics.
func answer[T any](work func() T) (result T, e api.Errno) {
	defer func() {
		if reason := recover(); reason != nil {
			e = errorOf(reason)
		}
	}()
	return work(), api.OK
}

// errorOf returns the error that a panic carries. A panic without one can only come from an argument that was not foreseen.
func errorOf(reason any) api.Errno {
	if e, ok := reason.(api.Errno); ok {
		return e
	}
	return api.ErrArg
}

func needJob(j api.Job) {
	// With a want that is valid Count asks nothing else but that the set of blocks is.
	_, _, e := stack.Count(j.Stack, api.Span{})
	valid := e == api.OK && len(j.Wants) <= api.JobWants && !slices.ContainsFunc(j.Wants, isNoWant)
	if !valid {
		panic(api.ErrArg)
	}
}

func isNoWant(s api.Span) bool {
	return s.Lo < 0 || s.Lo > s.Hi || s.Hi > api.StackWant
}

// needPlan returns the plan that a list is, of a valid job.
func needPlan(j api.Job, list []int) plan {
	if len(list) != len(j.Wants) {
		panic(api.ErrRange)
	}
	p := make(plan, len(list))
	for want, number := range list {
		if number < 1 || number > int(fullSet(len(j.Stack.Blocks))) {
			panic(api.ErrRange)
		}
		p[want] = set(number)
	}
	return p
}

// needFound returns what was found; if there is none it panics.
func needFound[T any](found T, exists bool) T {
	if !exists {
		panic(api.ErrNone)
	}
	return found
}
