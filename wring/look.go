package wring

import (
	"slices"

	"blockworks/api"
)

// view is how faces are looked at of which it is not known whether they are scratched.
type view interface {
	whole(f face) bool
}

// wary takes only those faces for whole that are in each truth.
type wary struct{ blocks []api.WringBlock }

func (v wary) state(f face) int { return v.blocks[f.block()].Faces[f.side()].State }

func (v wary) whole(f face) bool { return v.state(f) == api.WringWhole }

// hopeful takes those faces for whole that are in some truth.
type hopeful struct{ wary }

func (v hopeful) whole(f face) bool { return v.state(f) != api.WringScratched }

// look is a wring, and how its faces are looked at. As each face is in at most one joint of a stack, what holds by a wary view holds in each truth, and what holds by a hopeful one in some.
type look struct {
	view
	apart []api.WringApart
	films films
}

// surely returns a wary look at a wring.
func surely(w api.Wring) look { return look{wary{w.Blocks}, w.Apart, filmsOf(w)} }

// perhaps returns a hopeful look at a wring.
func perhaps(w api.Wring) look { return look{hopeful{wary{w.Blocks}}, w.Apart, filmsOf(w)} }

// judge returns whether something is so: never, perhaps, or always.
func judge(w api.Wring, so func(look) bool) int {
	switch {
	case so(surely(w)):
		return api.WringAlways
	case so(perhaps(w)):
		return api.WringPerhaps
	}
	return api.WringNever
}

// keeps is the rule that a joint breaks that breaks none.
const keeps = 0

// broken returns the first rule that a joint breaks, or keeps.
func (l look) broken(s seam) int {
	lower, upper := s.faces()
	switch {
	case l.areApart(s.lower.Block, s.upper.Block):
		return api.WringBlocked
	case !l.whole(lower) || !l.whole(upper):
		return api.WringFails
	}
	return keeps
}

func (l look) areApart(a, b int) bool {
	return slices.Contains(l.apart, api.WringApart{A: a, B: b}) || slices.Contains(l.apart, api.WringApart{A: b, B: a})
}

// fault is a joint of a stack, and the rule that it breaks.
type fault struct{ joint, rule int }

// firstFault returns the first fault of a stack, and whether there is one.
func firstFault(l look, stack []api.WringPlace) (fault, bool) {
	for i, s := range seamsOf(stack) {
		if rule := l.broken(s); rule != keeps {
			return fault{i, rule}, true
		}
	}
	return fault{}, false
}
