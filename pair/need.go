package pair

import "blockworks/api"

// answer returns what work returns, or the error with which work panics.
func answer[T any](work func() T) (result T, e api.Errno) {
	defer func() {
		if reason := recover(); reason != nil {
			e = errorOf(reason)
		}
	}()
	return work(), api.OK
}

// errorOf returns the error that a panic carries. A panic without one can only come from an argument that was not foreseen.
func errorOf(reason any) api.Errno {
	if e, ok := reason.(api.Errno); ok {
		return e
	}
	return api.ErrArg
}

func needPair(p api.Pair) {
	valid := validBlocks(p.Blocks) &&
		within(p.Zero, -api.PairZero, api.PairZero) && wide(p.Zero) <= api.PairWide &&
		within(p.Rate, -api.PairRate, api.PairRate) && wide(p.Rate) <= api.PairWide &&
		validReads(p.Reads, len(p.Blocks))
	if !valid {
		panic(api.ErrArg)
	}
}

func needBlock(p api.Pair, block int) {
	if !isBlock(block, len(p.Blocks)) {
		panic(api.ErrRange)
	}
}

func needMinute(minute int) {
	if !isMinute(minute) {
		panic(api.ErrRange)
	}
}

func validBlocks(blocks []api.Span) bool {
	if len(blocks) < 1 || len(blocks) > api.PairBlocks {
		return false
	}
	for _, s := range blocks {
		if !within(s, -api.PairDeviates, api.PairDeviates) {
			return false
		}
	}
	return true
}

func validReads(reads []api.PairRead, blocks int) bool {
	if len(reads) > api.PairReads {
		return false
	}
	for _, r := range reads {
		if !isBlock(r.A, blocks) || !isBlock(r.B, blocks) || r.A == r.B ||
			!isMinute(r.Minute) || !within(r.Diff, -api.PairDiff, api.PairDiff) {
			return false
		}
	}
	return true
}

func isBlock(block, blocks int) bool { return block >= 0 && block < blocks }

func isMinute(minute int) bool { return minute >= 0 && minute <= api.PairMinutes }

// within returns whether a span is valid and lies from lo to hi.
func within(s api.Span, lo, hi int) bool {
	return lo <= s.Lo && s.Lo <= s.Hi && s.Hi <= hi
}

// wide returns by how much the ends of a span differ. It is asked only of spans that keep to limits, so that no difference overflows.
func wide(s api.Span) int {
	return s.Hi - s.Lo
}
