package grade

import (
	"iter"
	"slices"

	"blockworks/api"
)

// answer returns what work returns, or the error with which work panics.
func answer[T any](work func() T) (result T, e api.Errno) {
	defer func() {
		if reason := recover(); reason != nil {
			e = errorOf(reason)
		}
	}()
	return work(), api.OK
}

// errorOf returns the error that a panic carries. A panic without one can only come from an argument that was not foreseen.
func errorOf(reason any) api.Errno {
	if e, ok := reason.(api.Errno); ok {
		return e
	}
	return api.ErrArg
}

func needGrade(g api.Grade) {
	valid := validLimits(g.Limits) && !slices.ContainsFunc(g.Points[:], isInvalid) && isUpTo(g.Step, api.GradeStep)
	if !valid {
		panic(api.ErrArg)
	}
}

func validLimits(limits []api.GradeLimit) bool {
	if len(limits) < 1 || len(limits) > api.GradeGrades {
		return false
	}
	var before api.GradeLimit
	for _, l := range limits {
		if l.Off < before.Off || l.Varies < before.Varies || !isUpTo(l.Off, api.GradeMost) || !isUpTo(l.Varies, api.GradeMost) {
			return false
		}
		before = l
	}
	return true
}

func isInvalid(s api.Span) bool {
	return s.Lo < -api.GradeMost || s.Lo > s.Hi || s.Hi > api.GradeMost || s.Hi-s.Lo > api.GradeWide
}

func isUpTo(n, most int) bool { return 0 <= n && n <= most }

func needBelow(n, many int) {
	if n < 0 || n >= many {
		panic(api.ErrRange)
	}
}

// needTruths returns the blocks of all truths; without a truth it panics.
func needTruths(g api.Grade) iter.Seq[block] {
	if _, clash := firstClash(g); clash {
		panic(api.ErrClash)
	}
	return truthsOf(g)
}

// needFound returns what was found; if there is none it panics.
func needFound[T any](found T, exists bool) T {
	if !exists {
		panic(api.ErrNone)
	}
	return found
}
