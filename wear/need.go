package wear

import (
	"slices"

	"blockworks/api"
)

// answer returns what work returns, or the error with which work panics.
func answer[T any](work func() T) (result T, e api.Errno) {
	defer func() {
		if reason := recover(); reason != nil {
			e = errorOf(reason)
		}
	}()
	return work(), api.OK
}

// errorOf returns the error that a panic carries. A panic without one can only come from an argument that was not foreseen.
func errorOf(reason any) api.Errno {
	if e, ok := reason.(api.Errno); ok {
		return e
	}
	return api.ErrArg
}

func needBlock(w api.Wear) {
	valid := within(w.Length, 0, api.WearLength) && w.Length.Hi-w.Length.Lo <= api.WearWide &&
		within(w.Use, 0, api.WearUse) &&
		len(w.Events) <= api.WearEvents && !slices.ContainsFunc(w.Events, isInvalid)
	if !valid {
		panic(api.ErrArg)
	}
}

func isInvalid(e api.WearEvent) bool {
	switch e.Kind {
	case api.WearUses:
		return !validUses(e.Uses)
	case api.WearRead:
		return !validShows(e.Span)
	case api.WearLap:
		return !within(e.Span, 0, api.WearOff)
	}
	return true
}

func validUses(uses int) bool { return 0 <= uses && uses <= api.WearUsed }

func validShows(s api.Span) bool { return within(s, -api.WearShows, api.WearShows) }

// within returns whether a span is valid and lies from lo to hi.
func within(s api.Span, lo, hi int) bool {
	return lo <= s.Lo && s.Lo <= s.Hi && s.Hi <= hi
}

func needEvent(w api.Wear, event int) {
	if event < 0 || event >= len(w.Events) {
		panic(api.ErrRange)
	}
}

func needLimit(limit int) { needShows(api.Span{Lo: limit, Hi: limit}) }

func needShows(shows api.Span) {
	if !validShows(shows) {
		panic(api.ErrRange)
	}
}

func needDays(uses []int) {
	if len(uses) > api.WearDays {
		panic(api.ErrLong)
	}
}

func needUses(uses []int) {
	for _, n := range uses {
		if !validUses(n) {
			panic(api.ErrRange)
		}
	}
}

// needTruth returns what is known of the lengths of a block by all its readings; without a truth it panics.
func needTruth(w api.Wear) course {
	lengths := historyOf(w).course(looked{readingsOf(w)})
	if !lengths.possible() {
		panic(api.ErrClash)
	}
	return lengths
}

// lastOf returns what is known of the length after all events, or at first, without events; without a truth it panics.
func lastOf(w api.Wear) known { return needTruth(w)[len(w.Events)] }

// needFound returns what was found; if there is none it panics.
func needFound[T any](found T, exists bool) T {
	if !exists {
		panic(api.ErrNone)
	}
	return found
}
