package wring

import (
	"slices"

	"blockworks/api"
)

// answer returns what work returns, or the error with which work panics.
func answer[T any](work func() T) (result T, e api.Errno) {
	defer func() {
		if reason := recover(); reason != nil {
			e = errorOf(reason)
		}
	}()
	return work(), api.OK
}

// errorOf returns the error that a panic carries. A panic without one can only come from an argument that was not foreseen.
func errorOf(reason any) api.Errno {
	if e, ok := reason.(api.Errno); ok {
		return e
	}
	return api.ErrArg
}

func needWring(w api.Wring) {
	if !validBlocks(w.Blocks) || !validAparts(w.Apart, len(w.Blocks)) {
		panic(api.ErrArg)
	}
}

func validBlocks(blocks []api.WringBlock) bool {
	if len(blocks) < 1 || len(blocks) > api.WringBlocks {
		return false
	}
	for _, b := range blocks {
		if !within(b.Length, 1, api.WringLength) || !validFace(b.Faces[0]) || !validFace(b.Faces[1]) {
			return false
		}
	}
	return true
}

func validFace(f api.WringFace) bool {
	switch f.State {
	case api.WringWhole, api.WringMaybe, api.WringScratched:
		return within(f.Rough, 0, api.WringRough)
	}
	return false
}

func validAparts(aparts []api.WringApart, blocks int) bool {
	if len(aparts) > api.WringAparts {
		return false
	}
	return !slices.ContainsFunc(aparts, func(a api.WringApart) bool {
		return !isBelow(a.A, blocks) || !isBelow(a.B, blocks) || a.A == a.B
	})
}

// needStack is asked only beside a valid wring. A list that is too long names a block twice, or one that there is not, so it is left soon.
func needStack(w api.Wring, stack []api.WringPlace) {
	var used set[int]
	for _, p := range stack {
		if !isBelow(p.Block, len(w.Blocks)) || !isBelow(p.Up, sides) || used.has(p.Block) {
			panic(api.ErrRange)
		}
		used = used.with(p.Block)
	}
	if used == 0 {
		panic(api.ErrRange)
	}
}

func isBelow(n, many int) bool { return 0 <= n && n < many }

// within returns whether a span is valid and lies from lo to hi.
func within(s api.Span, lo, hi int) bool {
	return lo <= s.Lo && s.Lo <= s.Hi && s.Hi <= hi
}
