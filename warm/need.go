package warm

import "blockworks/api"

// answer returns what work returns, or the error with which work panics.
func answer[T any](work func() T) (result T, e api.Errno) {
	defer func() {
		if reason := recover(); reason != nil {
			e = errorOf(reason)
		}
	}()
	return work(), api.OK
}

// errorOf returns the error that a panic carries. A panic without one can only come from an argument that was not foreseen.
func errorOf(reason any) api.Errno {
	if e, ok := reason.(api.Errno); ok {
		return e
	}
	return api.ErrArg
}

func needBlock(w api.Warm) {
	valid := w.Mark >= 1 && w.Mark <= api.WarmMark &&
		within(w.Length, -api.WarmLength, api.WarmLength) && wide(w.Length) <= api.WarmLengths &&
		within(w.Coeff, 0, api.WarmCoeff) && wide(w.Coeff) <= api.WarmCoeffs &&
		validReadings(w.Readings)
	if !valid {
		panic(api.ErrArg)
	}
}

func validReadings(readings []api.WarmReading) bool {
	if len(readings) > api.WarmReadings {
		return false
	}
	for _, r := range readings {
		if !validWarmth(r.Warm) || wide(r.Warm) > api.WarmWide || !within(r.Shows, -api.WarmShows, api.WarmShows) {
			return false
		}
	}
	return true
}

func validWarmth(s api.Span) bool {
	return within(s, -api.WarmMost, api.WarmMost)
}

// within returns whether a span is valid and lies from lo to hi.
func within(s api.Span, lo, hi int) bool {
	return lo <= s.Lo && s.Lo <= s.Hi && s.Hi <= hi
}

// wide returns by how much the ends of a span differ. It is asked only of spans that keep to limits, so that no difference overflows.
func wide(s api.Span) int {
	return s.Hi - s.Lo
}

func needReading(w api.Warm, reading int) {
	if reading < 0 || reading >= len(w.Readings) {
		panic(api.ErrRange)
	}
}

func needWarmth(warmth api.Span) {
	if !validWarmth(warmth) {
		panic(api.ErrRange)
	}
}

func needOff(off int) {
	if off < 0 || off > api.WarmShows {
		panic(api.ErrRange)
	}
}

func needOffers(offers []int) {
	if len(offers) > api.WarmOffers {
		panic(api.ErrLong)
	}
	if len(offers) == 0 {
		panic(api.ErrRange)
	}
	for _, warmth := range offers {
		needWarmth(api.Span{Lo: warmth, Hi: warmth})
	}
}
