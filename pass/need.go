package pass

import (
	"slices"

	"blockworks/api"
)

// answer returns what work returns, or the error with which work panics.
func answer[T any](work func() T) (result T, e api.Errno) {
	defer func() {
		if reason := recover(); reason != nil {
			e = errorOf(reason)
		}
	}()
	return work(), api.OK
}

// errorOf returns the error that a panic carries. A panic without one can only come from an argument that was not foreseen.
func errorOf(reason any) api.Errno {
	if e, ok := reason.(api.Errno); ok {
		return e
	}
	return api.ErrArg
}

func needPass(p api.Pass) {
	isInvalid := func(paper api.PassPaper) bool { return !validPaper(p, paper) }
	valid := isWithin(p.Items, 1, api.PassItems) && isYear(p.Age) &&
		len(p.Papers) <= api.PassPapers && !slices.ContainsFunc(p.Papers, isInvalid)
	if !valid {
		panic(api.ErrArg)
	}
}

func validPaper(p api.Pass, paper api.PassPaper) bool {
	return isItem(p, paper.Of) && (paper.By == standard || isItem(p, paper.By)) && paper.By != paper.Of &&
		isWithin(paper.Wrong, 0, api.PassWrong) && isYear(paper.Year) && isWithin(paper.Drift, 0, api.PassDrift)
}

func isWithin(n, lo, hi int) bool { return lo <= n && n <= hi }

func isItem(p api.Pass, item int) bool { return isWithin(item, 0, p.Items-1) }

// isYear returns whether a number is one of a year, or of as many years as there are.
func isYear(year int) bool { return isWithin(year, 0, api.PassYears) }

func needItem(p api.Pass, item int) { needRange(isItem(p, item)) }

func needItems(p api.Pass, items int) { needRange(isWithin(items, 0, 1<<p.Items-1)) }

func needPaper(p api.Pass, paper int) { needRange(isWithin(paper, 0, len(p.Papers)-1)) }

func needYear(year int) { needRange(isYear(year)) }

func needLimit(limit int) { needRange(isWithin(limit, 0, api.PassBound)) }

func needRange(within bool) {
	if !within {
		panic(api.ErrRange)
	}
}

// needFound returns what was found; if there is none it panics.
func needFound[T any](found T, exists bool) T {
	if !exists {
		panic(api.ErrNone)
	}
	return found
}
