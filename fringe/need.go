package fringe

import "blockworks/api"

// answer returns what work returns, or the error with which work panics.
func answer[T any](work func() T) (result T, e api.Errno) {
	defer func() {
		if reason := recover(); reason != nil {
			e = errorOf(reason)
		}
	}()
	return work(), api.OK
}

// errorOf returns the error that a panic carries. A panic without one can only come from an argument that was not foreseen.
func errorOf(reason any) api.Errno {
	if e, ok := reason.(api.Errno); ok {
		return e
	}
	return api.ErrArg
}

func needFringe(f api.Fringe) {
	if !validWaves(f.Waves) || !validLength(f.Length) || !validReads(f.Reads, len(f.Waves)) {
		panic(api.ErrArg)
	}
}

func needColour(f api.Fringe, colour int) {
	if colour < 0 || colour >= len(f.Waves) {
		panic(api.ErrRange)
	}
}

func needLength(length int) {
	if length < 0 || length > api.FringeLength {
		panic(api.ErrRange)
	}
}

func needTruth(f api.Fringe) {
	if !agree(f.Length, readings(f)) {
		panic(api.ErrClash)
	}
}

func validWaves(waves []int) bool {
	if len(waves) < 1 || len(waves) > api.FringeColours {
		return false
	}
	for _, w := range waves {
		if w < 2 || w > api.FringeWave {
			return false
		}
	}
	return true
}

// validLength compares the ends with the limits before it subtracts them, so that no difference overflows.
func validLength(s api.Span) bool {
	return s.Lo >= 0 && s.Lo <= s.Hi && s.Hi <= api.FringeLength && s.Hi-s.Lo <= api.FringeWide
}

func validReads(reads []api.FringeRead, colours int) bool {
	if len(reads) > api.FringeReads {
		return false
	}
	for _, r := range reads {
		if r.Colour < 0 || r.Colour >= colours || !validPart(r.Part) {
			return false
		}
	}
	return true
}

func validPart(s api.Span) bool {
	const last = api.FringeParts - 1
	return s.Lo >= 0 && s.Lo <= last && s.Lo <= s.Hi && s.Hi <= s.Lo+last
}
