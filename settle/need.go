package settle

import (
	"slices"

	"blockworks/api"
)

// answer returns what work returns, or the error with which work panics.
func answer[T any](work func() T) (result T, e api.Errno) {
	defer func() {
		if reason := recover(); reason != nil {
			e = errorOf(reason)
		}
	}()
	return work(), api.OK
}

// errorOf returns the error that a panic carries. A panic without one can only come from an argument that was not foreseen.
func errorOf(reason any) api.Errno {
	if e, ok := reason.(api.Errno); ok {
		return e
	}
	return api.ErrArg
}

func needSettle(s api.Settle) {
	isInvalid := func(t api.SettleTouch) bool { return !validTouch(s, t) }
	valid := 1 <= len(s.Blocks) && len(s.Blocks) <= api.SettleBlocks && !slices.ContainsFunc(s.Blocks, isInvalidBlock) &&
		isWithin(s.Near, 0, api.SettleNear) && isWithin(s.Last, 1, api.SettleLast) &&
		len(s.Touches) <= api.SettleTouches && !slices.ContainsFunc(s.Touches, isInvalid)
	if !valid {
		panic(api.ErrArg)
	}
}

func isInvalidBlock(b api.SettleBlock) bool {
	valid := liesIn(b.Excess, -api.SettleExcess, api.SettleExcess) && liesIn(b.Slow, 2, api.SettleSlow) && liesIn(b.Grows, 0, api.SettleGrows)
	return !valid
}

func validTouch(s api.Settle, t api.SettleTouch) bool {
	return isBlock(s, t.Block) && isMinute(s, t.Minute) && liesIn(t.Heat, -api.SettleExcess, api.SettleExcess)
}

// liesIn returns whether a span is valid and lies from lo to hi.
func liesIn(s api.Span, lo, hi int) bool { return lo <= s.Lo && s.Lo <= s.Hi && s.Hi <= hi }

func isWithin(n, lo, hi int) bool { return lo <= n && n <= hi }

func isBlock(s api.Settle, block int) bool { return isWithin(block, 0, len(s.Blocks)-1) }

func isMinute(s api.Settle, minute int) bool { return isWithin(minute, 0, s.Last) }

func needBlock(s api.Settle, block int) { needRange(isBlock(s, block)) }

func needMinute(s api.Settle, minute int) { needRange(isMinute(s, minute)) }

// needWarmth asks of an excess, or of a heat, that it is one.
func needWarmth(warmth int) { needRange(isWithin(warmth, -api.SettleExcess, api.SettleExcess)) }

func needRange(within bool) {
	if !within {
		panic(api.ErrRange)
	}
}

// needFound returns what was found; if there is none it panics.
func needFound[T any](found T, exists bool) T {
	if !exists {
		panic(api.ErrNone)
	}
	return found
}
