package plan

import (
	"blockworks/api"
	"blockworks/pair"
)

// answer returns what work returns, or the error with which work panics.
func answer[T any](work func() T) (result T, e api.Errno) {
	defer func() {
		if reason := recover(); reason != nil {
			e = errorOf(reason)
		}
	}()
	return work(), api.OK
}

// errorOf returns the error that a panic carries. A panic without one can only come from an argument that was not foreseen.
func errorOf(reason any) api.Errno {
	if e, ok := reason.(api.Errno); ok {
		return e
	}
	return api.ErrArg
}

// right returns what a function of a lower layer told, or panics with its error.
func right[T any](told T, e api.Errno) T {
	if e != api.OK {
		panic(e)
	}
	return told
}

func needPlan(p api.Plan) {
	// Groups asks nothing of a pair but that it is valid.
	right(pair.Groups(p.Pair))
	valid := p.Wide >= 0 && p.Wide <= api.PlanWide &&
		len(p.Prices) == len(p.Pair.Reads) && validPrices(p.Prices)
	if !valid {
		panic(api.ErrArg)
	}
}

func validPrices(prices []int) bool {
	for _, price := range prices {
		if price < 0 || price > api.PlanPrice {
			return false
		}
	}
	return true
}

func needReads(p api.Plan, reads int) {
	if reads < 0 || reads > int(fullSet(len(p.Pair.Reads))) {
		panic(api.ErrRange)
	}
}

func needMany(many int) {
	if many < 0 || many > api.PairReads {
		panic(api.ErrRange)
	}
}

// needTruth asks of a valid pair that it has a truth; then there is one with each set of its readings, too.
func needTruth(p api.Plan) {
	right(pair.Known(p.Pair, 0))
}
