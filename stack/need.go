package stack

import "blockworks/api"

// answer returns what work returns, or the error with which work panics.
func answer[T any](work func() T) (result T, e api.Errno) {
	defer func() {
		if reason := recover(); reason != nil {
			e = errorOf(reason)
		}
	}()
	return work(), api.OK
}

// errorOf returns the error that a panic carries. A panic without one can only come from an argument that was not foreseen.
func errorOf(reason any) api.Errno {
	if e, ok := reason.(api.Errno); ok {
		return e
	}
	return api.ErrArg
}

// needSet returns a set of blocks with a list of its own, so that what was looked at stays as it was, whatever the caller does with his list.
func needSet(s api.Stack) api.Stack {
	if len(s.Blocks) > api.StackBlocks {
		panic(api.ErrArg)
	}
	blocks := make([]api.Span, len(s.Blocks))
	copy(blocks, s.Blocks)
	if !validBlocks(blocks) || !within(s.Film, 0, api.StackFilm) {
		panic(api.ErrArg)
	}
	return api.Stack{Blocks: blocks, Film: s.Film}
}

func validBlocks(blocks []api.Span) bool {
	for _, b := range blocks {
		// What is within limits has ends whose difference does not overflow.
		if !within(b, 1, api.StackLength) || b.Hi-b.Lo > api.StackWide {
			return false
		}
	}
	return true
}

func needStack(s api.Stack, blocks int) {
	if blocks < 1 || blocks >= 1<<len(s.Blocks) {
		panic(api.ErrRange)
	}
}

func needWant(want api.Span) {
	if !within(want, 0, api.StackWant) {
		panic(api.ErrRange)
	}
}

func needLength(length int) {
	if !within(exactly(length), 0, api.StackWant) {
		panic(api.ErrRange)
	}
}

func needOff(off int) {
	if off < 0 || off > api.StackWant {
		panic(api.ErrRange)
	}
}

// needGap is asked only of lengths, so that no difference overflows.
func needGap(from, to int) {
	if from > to || to-from > api.StackGap {
		panic(api.ErrRange)
	}
}

// within returns whether a span is valid and lies from lo to hi.
func within(s api.Span, lo, hi int) bool {
	return lo <= s.Lo && s.Lo <= s.Hi && s.Hi <= hi
}

// exactly returns the span of one length alone.
func exactly(length int) api.Span {
	return api.Span{Lo: length, Hi: length}
}
