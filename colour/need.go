package colour

import (
	"slices"

	"blockworks/api"
)

// answer returns what work returns, or the error with which work panics.
func answer[T any](work func() T) (result T, e api.Errno) {
	defer func() {
		if reason := recover(); reason != nil {
			e = errorOf(reason)
		}
	}()
	return work(), api.OK
}

// errorOf returns the error that a panic carries. A panic without one can only come from an argument that was not foreseen.
func errorOf(reason any) api.Errno {
	if e, ok := reason.(api.Errno); ok {
		return e
	}
	return api.ErrArg
}

func needValid(c api.Colour) {
	valid := validWaves(c.Waves) && len(c.Prices) == len(c.Waves) && validPrices(c.Prices) &&
		validLength(c.Length) && isWithin(c.Every, 1, api.ColourEvery) && isWithin(c.Error, 0, api.ColourError)
	if !valid {
		panic(api.ErrArg)
	}
}

func validWaves(waves []int) bool {
	return isWithin(len(waves), 1, api.ColourColours) && areWithin(waves, 2, api.FringeWave)
}

func validPrices(prices []int) bool { return areWithin(prices, 0, api.ColourPrice) }

// validLength compares the ends with the limits before it subtracts them, so that no difference overflows.
func validLength(s api.Span) bool {
	return isLength(s.Lo) && isLength(s.Hi) && isWithin(s.Hi-s.Lo, 0, api.ColourWide)
}

func isLength(length int) bool { return isWithin(length, 0, api.FringeLength) }

func isWithin(n, lo, hi int) bool { return lo <= n && n <= hi }

func areWithin(numbers []int, lo, hi int) bool {
	return !slices.ContainsFunc(numbers, func(n int) bool { return !isWithin(n, lo, hi) })
}

func (l light) needColour(colour int) { needRange(isWithin(colour, 0, len(l.Waves)-1)) }

func (l light) needSet(set int) { needRange(isWithin(set, 0, int(l.all()))) }

func needLengths(a, b int) { needRange(isLength(a) && isLength(b)) }

func needRange(within bool) {
	if !within {
		panic(api.ErrRange)
	}
}

func (l light) needAllParted(by colourSet) {
	if !l.areAllParted(by) {
		panic(api.ErrRefuse)
	}
}

// needFound returns what was found; if there is none it panics.
func needFound[T any](found T, exists bool) T {
	if !exists {
		panic(api.ErrNone)
	}
	return found
}
