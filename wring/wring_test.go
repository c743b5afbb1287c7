package wring_test

import (
	"math"
	"reflect"
	"slices"
	"strings"
	"testing"

	"blockworks/api"
	"blockworks/wring"
)

func whole(lo, hi int) api.WringFace {
	return api.WringFace{Rough: span(lo, hi), State: api.WringWhole}
}

func maybe(lo, hi int) api.WringFace {
	return api.WringFace{Rough: span(lo, hi), State: api.WringMaybe}
}

func scratched(lo, hi int) api.WringFace {
	return api.WringFace{Rough: span(lo, hi), State: api.WringScratched}
}

func block(lo, hi int, faces ...api.WringFace) api.WringBlock {
	return api.WringBlock{Length: span(lo, hi), Faces: [2]api.WringFace(faces)}
}

// wringW and wringX are the wrings of the chapter's examples.
func wringW() api.Wring {
	return api.Wring{Blocks: []api.WringBlock{
		block(10, 10, whole(1, 1), scratched(0, 2)),
		block(20, 21, whole(1, 1), whole(2, 2)),
		block(5, 5, maybe(0, 0), whole(3, 3)),
	}}
}

func wringX() api.Wring { return apart(wringW(), 0, 1) }

// apart returns a wring in which more blocks must be apart: pairs of them stand one after the other.
func apart(w api.Wring, blocks ...int) api.Wring {
	w.Apart = slices.Clone(w.Apart)
	for p := range slices.Chunk(blocks, 2) {
		w.Apart = append(w.Apart, api.WringApart{A: p[0], B: p[1]})
	}
	return w
}

// faced returns blocks that are 10 long, with smooth faces; w, m and s are the states of the faces of each: whole, maybe, scratched.
func faced(states string) api.Wring {
	var w api.Wring
	for _, s := range strings.Fields(states) {
		face := func(i int) api.WringFace { return api.WringFace{State: strings.IndexByte("wms", s[i])} }
		w.Blocks = append(w.Blocks, block(10, 10, face(0), face(1)))
	}
	return w
}

// rough returns a wring in which each face is as rough as is told, one after the other.
func rough(w api.Wring, to ...int) api.Wring {
	w.Blocks = slices.Clone(w.Blocks)
	for i, r := range to {
		w.Blocks[i/2].Faces[i%2].Rough = span(r, r)
	}
	return w
}

// places reads a stack as the chapter writes it: block/up, block/up.
func places(text string) []api.WringPlace {
	var stack []api.WringPlace
	for _, p := range strings.Fields(text) {
		stack = append(stack, api.WringPlace{Block: int(p[0] - '0'), Up: int(p[2] - '0')})
	}
	return stack
}

// same fails unless what a call returned is what is wanted.
func same(t *testing.T, call string, got, want any) {
	t.Helper()
	if !reflect.DeepEqual(got, want) {
		t.Errorf("%s: got %v, want %v", call, got, want)
	}
}

// two and three put the results of a call into one value.
func two[A any](a A, e api.Errno) [2]any           { return [2]any{a, e} }
func three[A, B any](a A, b B, e api.Errno) [3]any { return [3]any{a, b, e} }

func number(n int) [2]any     { return two(n, api.OK) }
func long(lo, hi int) [2]any  { return two(span(lo, hi), api.OK) }
func numbers(a, b int) [3]any { return three(a, b, api.OK) }
func nones() [3]any           { return three(0, 0, api.ErrNone) }

func bestOf(film int, stack []api.WringPlace) [3]any { return three(film, stack, api.OK) }
func noBest() [3]any                                 { return three(0, []api.WringPlace(nil), api.ErrNone) }

func TestExamples(t *testing.T) {
	w, x := wringW(), wringX()
	a, b, c := places("0/0 1/0 2/0"), places("0/1 1/0 2/0"), places("0/0 1/0 2/1")
	same(t, "Check", three(wring.Check(w, a)), nones())
	same(t, "Check", three(wring.Check(w, b)), numbers(0, 2))
	same(t, "Check", three(wring.Check(w, c)), numbers(1, 2))
	same(t, "Check of X", three(wring.Check(x, a)), numbers(0, 1))
	same(t, "Holds", two(wring.Holds(w, a)), number(2))
	same(t, "Holds", two(wring.Holds(w, b)), number(0))
	same(t, "Holds", two(wring.Holds(w, c)), number(1))
	same(t, "Length", two(wring.Length(w, a)), long(42, 43))
	same(t, "Length", two(wring.Length(w, places("1/1"))), long(20, 21))
	same(t, "Length", two(wring.Length(w, places("0/1 1/0"))), long(32, 35))
	same(t, "Count", two(wring.Count(w)), number(4))
	same(t, "Count of X", two(wring.Count(x)), number(0))
	same(t, "Best", three(wring.Best(w)), bestOf(7, a))
	same(t, "Best of X", three(wring.Best(x)), noBest())
	same(t, "Hope", two(wring.Hope(w)), number(2))
	same(t, "Hope of X", two(wring.Hope(x)), number(1))
	same(t, "Most of X", three(wring.Most(x)), numbers(2, 5))
	same(t, "Most", three(wring.Most(w)), numbers(3, 7))
	same(t, "Polish of X", three(wring.Polish(x)), numbers(1, 16))
	same(t, "Polish", three(wring.Polish(w)), numbers(0, 0))
}

// TestCheck: P5.1. The first joint comes before the first rule, and only faces of joints are looked at.
func TestCheck(t *testing.T) {
	for _, x := range []struct {
		w           api.Wring
		stack       string
		joint, rule int
	}{
		// With the face 0 above the face 1 is below, and the other way round.
		{faced("ws ww"), "0/1 1/0", 0, 2}, {faced("sw ww"), "0/0 1/0", 0, 2}, {faced("ww sw"), "0/0 1/1", 0, 2}, {faced("ww ws"), "0/0 1/0", 0, 2}, {faced("ws ww"), "1/0 0/0", 0, 2}, {faced("sw ww"), "1/0 0/1", 0, 2},
		{faced("ww mw"), "0/0 1/1", 0, 2}, {faced("wm ww"), "0/1 1/1", 0, 2}, {faced("mm mm"), "1/0 0/0", 0, 2}, {faced("ss ss"), "1/0 0/0", 0, 2},
		{apart(faced("ww ww"), 0, 1), "0/0 1/0", 0, 1}, {apart(faced("ww ww"), 0, 1), "1/0 0/0", 0, 1}, {apart(faced("ww ww"), 1, 0), "0/0 1/0", 0, 1}, {apart(faced("ww ww"), 1, 0), "1/0 0/0", 0, 1},
		{apart(faced("ss ss"), 1, 0), "1/0 0/0", 0, 1}, {apart(faced("mm mm"), 1, 0), "0/1 1/0", 0, 1}, {apart(faced("ws ww"), 0, 1), "0/1 1/0", 0, 1},
		// A joint that perhaps fails comes before a later one that surely does, or whose blocks must be apart.
		{apart(faced("ww ms ss"), 1, 2), "0/0 1/1 2/0", 0, 2}, {apart(faced("ww ws ss"), 1, 2), "0/0 1/1 2/0", 1, 1}, {faced("ww mw ss"), "0/0 1/1 2/0", 0, 2}, {faced("ww ww ss"), "0/0 1/1 2/0", 1, 2},
		{apart(faced("ww ww ww ww ww"), 3, 4), "0/0 1/0 2/0 3/0 4/0", 3, 1}, {apart(faced("ww ww ww ww ww"), 0, 1, 3, 4), "0/0 2/0 1/0 4/0 3/0", 3, 1}, {faced("ww ww ww ww sm"), "3/0 2/0 1/0 0/0 4/0", 3, 2},
	} {
		same(t, "Check "+x.stack, three(wring.Check(x.w, places(x.stack))), numbers(x.joint, x.rule))
	}
	for _, x := range []struct {
		w     api.Wring
		stack string
	}{
		{faced("ss"), "0/0"}, {faced("mm ss"), "0/1"}, {faced("mm ss"), "1/1"}, {faced("ws sw"), "0/0 1/0"}, {faced("wm mw"), "0/0 1/0"}, {faced("sw ws"), "0/1 1/1"}, {faced("ww ww ww ww ww"), "4/1 2/0 0/1 3/0 1/0"},
		{apart(faced("ww ww ww"), 0, 2), "0/0 1/0 2/0"}, {apart(faced("ww ww ww"), 0, 2), "0/0 1/0"}, {apart(faced("ws ww sw"), 0, 2), "0/0 1/0 2/0"},
	} {
		same(t, "Check "+x.stack, three(wring.Check(x.w, places(x.stack))), nones())
	}
	same(t, "the rules", []int{api.WringBlocked, api.WringFails}, []int{1, 2})
}

// TestHolds: P5.2.
func TestHolds(t *testing.T) {
	for _, x := range []struct {
		w     api.Wring
		stack string
		holds int
	}{
		{faced("ss"), "0/0", api.WringAlways}, {faced("mm ss"), "0/1", api.WringAlways}, {apart(faced("ss mm"), 0, 1), "1/0", api.WringAlways}, {faced("ws sw"), "0/0 1/0", api.WringAlways}, {faced("wm mw"), "0/0 1/0", api.WringAlways}, {faced("sw ws"), "0/1 1/1", api.WringAlways}, {faced("ww ww ww ww ww"), "4/1 2/0 0/1 3/0 1/0", api.WringAlways}, {apart(faced("ww ww ww"), 0, 2), "2/1 1/0 0/0", api.WringAlways},
		{faced("mw ww"), "0/0 1/0", api.WringPerhaps}, {faced("ww wm"), "0/0 1/0", api.WringPerhaps}, {faced("mm mm"), "1/1 0/0", api.WringPerhaps}, {faced("mm mm mm mm mm"), "4/0 3/0 2/0 1/0 0/0", api.WringPerhaps}, {faced("ms ww sm"), "0/0 1/0 2/0", api.WringPerhaps},
		{faced("sw ww"), "0/0 1/0", api.WringNever}, {faced("ww ws"), "0/0 1/0", api.WringNever}, {faced("ms ww ms"), "0/0 1/0 2/0", api.WringNever}, {faced("sw ww mm"), "0/0 1/0 2/0", api.WringNever}, {faced("ww ww ww ww ms"), "0/0 1/0 2/0 3/0 4/0", api.WringNever},
		{apart(faced("ww ww"), 0, 1), "0/0 1/0", api.WringNever}, {apart(faced("ww ww"), 0, 1), "1/0 0/0", api.WringNever}, {apart(faced("mm mm"), 1, 0), "0/0 1/0", api.WringNever}, {apart(faced("mm mm ww"), 2, 1), "0/0 1/0 2/0", api.WringNever}, {apart(faced("ww mm mm"), 1, 0), "0/0 1/0 2/0", api.WringNever},
	} {
		same(t, "Holds "+x.stack, two(wring.Holds(x.w, places(x.stack))), number(x.holds))
	}
	same(t, "the numbers", []int{api.WringNever, api.WringPerhaps, api.WringAlways}, []int{0, 1, 2})
}

// TestLength: P5.3. Whether the stack holds is not looked at, nor the faces that are not in a joint.
func TestLength(t *testing.T) {
	w := api.Wring{Blocks: []api.WringBlock{
		block(1, 2, whole(0, 1), scratched(4, 5)),
		block(10, 30, maybe(1, 3), whole(0, 0)),
		block(200, 200, whole(2, 2), whole(0, 5)),
	}}
	for _, x := range []struct {
		stack  string
		lo, hi int
	}{
		{"0/0", 1, 2}, {"0/1", 1, 2}, {"1/0", 10, 30}, {"2/1", 200, 200},
		{"0/0 1/0", 11, 33}, {"0/0 1/1", 12, 36}, {"0/1 1/0", 15, 37}, {"0/1 1/1", 16, 40}, {"1/0 0/0", 16, 40}, {"1/0 0/1", 12, 36}, {"1/1 0/0", 15, 37}, {"1/1 0/1", 11, 33},
		{"0/0 1/0 2/0", 212, 241}, {"0/0 1/0 2/1", 214, 238}, {"0/1 1/1 2/1", 218, 242}, {"2/0 0/0 1/0", 217, 240}, {"2/1 0/1 1/1", 216, 246},
	} {
		for _, v := range []api.Wring{w, apart(w, 0, 1, 1, 2, 2, 0)} {
			same(t, "Length "+x.stack, two(wring.Length(v, places(x.stack))), long(x.lo, x.hi))
		}
	}
	five := rough(faced("ww mm ss ww ww"), 5, 5, 5, 5, 5, 5, 5, 5, 5, 5)
	for i := range five.Blocks {
		five.Blocks[i].Length = span(1, 200)
	}
	same(t, "Length of five", two(wring.Length(five, places("0/0 1/0 2/0 3/0 4/0"))), long(45, 1040))
}

// TestCount: P5.4. A stack and the same one upside down are two.
func TestCount(t *testing.T) {
	for _, x := range []struct {
		w    api.Wring
		many int
	}{
		{faced("ww"), 2}, {faced("ss"), 2}, {faced("ww ww"), 8}, {faced("ww ww ww"), 48}, {faced("ww ww ww ww"), 384}, {faced("ww ww ww ww ww"), 3840},
		{faced("ws ws"), 2}, {faced("wm sw"), 2}, {faced("ww mw"), 4}, {faced("ws ws ww"), 4}, {faced("ws ws ws"), 0}, {faced("ss ww"), 0}, {faced("mm ww ww"), 0},
		{apart(faced("ww ww"), 0, 1), 0}, {apart(faced("ww ww ww"), 0, 2), 16}, {apart(faced("ww ww ww"), 2, 0), 16}, {apart(faced("ww ww ww"), 0, 2, 2, 0, 0, 2), 16}, {apart(faced("ww ww ww"), 0, 1, 0, 2), 0}, {apart(faced("ww ww ww ww"), 0, 1, 2, 3), 128},
	} {
		same(t, "Count", two(wring.Count(x.w)), number(x.many))
	}
}

// TestBest: P5.5. Less film comes before a place that is first.
func TestBest(t *testing.T) {
	both := faced("ww ww")
	five := faced("ww ww ww ww ww")
	for _, x := range []struct {
		w     api.Wring
		film  int
		stack string
	}{
		{faced("ss"), 0, "0/0"}, {rough(faced("mm"), 5, 5), 0, "0/0"}, {both, 0, "0/0 1/0"}, {five, 0, "0/0 1/0 2/0 3/0 4/0"}, {rough(five, 5, 5, 5, 5, 5, 5, 5, 5, 5, 5), 40, "0/0 1/0 2/0 3/0 4/0"},
		{rough(both, 5, 3, 1, 1), 4, "0/1 1/0"}, {rough(both, 5, 3, 2, 1), 4, "0/1 1/0"}, {rough(both, 5, 3, 1, 2), 4, "0/1 1/1"}, {rough(both, 3, 5, 1, 2), 4, "0/0 1/1"},
		{rough(faced("sw ws"), 0, 5, 5, 0), 10, "0/1 1/1"}, {rough(faced("mw wm"), 0, 5, 5, 0), 10, "0/1 1/1"},
		{apart(five, 0, 1), 0, "0/0 2/0 1/0 3/0 4/0"}, {apart(five, 0, 1, 1, 2, 2, 3, 3, 4), 0, "0/0 2/0 4/0 1/0 3/0"}, {faced("ww ws ws"), 0, "1/0 0/0 2/1"}, {faced("ww ws sw"), 0, "1/0 0/0 2/0"},
		// The two faces that are in no joint are those of two blocks: the roughest ones that there can be.
		{rough(faced("ww ww ww"), 5, 5, 4, 0, 3, 0), 8, "0/0 2/0 1/0"}, {rough(faced("ww ww ww"), 5, 5, 0, 4, 0, 3), 8, "0/0 2/0 1/1"},
		// What the first joint saves is lost by the second one.
		{rough(faced("ws ww sw"), 1, 0, 0, 5, 0, 1), 7, "0/0 1/0 2/0"}, {rough(faced("ww ww ws"), 1, 4, 2, 2, 3, 0), 8, "0/0 1/0 2/1"},
		// It is the greatest film that counts, not the least, nor the one between.
		{api.Wring{Blocks: []api.WringBlock{block(1, 1, whole(0, 5), whole(4, 4)), block(1, 1, whole(1, 1), whole(1, 1))}}, 5, "0/1 1/0"},
		{api.Wring{Blocks: []api.WringBlock{block(1, 9, whole(3, 3), whole(0, 3)), block(1, 9, whole(2, 2), whole(0, 2))}}, 5, "0/0 1/0"},
	} {
		same(t, "Best", three(wring.Best(x.w)), bestOf(x.film, places(x.stack)))
	}
	for _, w := range []api.Wring{apart(both, 0, 1), apart(both, 1, 0), faced("ss ww"), faced("mm ww"), faced("wm wm wm"), apart(faced("ww ww ww"), 0, 1, 1, 2), apart(five, 4, 0, 4, 1, 4, 2, 4, 3)} {
		same(t, "Best", three(wring.Best(w)), noBest())
	}
}

// TestHope: P5.6.
func TestHope(t *testing.T) {
	for _, x := range []struct {
		w    api.Wring
		hope int
	}{
		{faced("ss"), api.WringAlways}, {faced("mm"), api.WringAlways}, {faced("ws sw"), api.WringAlways}, {faced("ws ws ww"), api.WringAlways}, {faced("ms ww mw mw"), api.WringPerhaps}, {faced("wm ww mw ww"), api.WringAlways}, {apart(faced("ww ww ww"), 0, 1), api.WringAlways},
		{faced("mm ww"), api.WringPerhaps}, {faced("wm ms"), api.WringPerhaps}, {faced("ms sm"), api.WringPerhaps}, {faced("ws ws wm"), api.WringPerhaps}, {faced("mm mm mm mm mm"), api.WringPerhaps}, {apart(faced("ww ww wm"), 0, 1), api.WringPerhaps}, {apart(faced("ww ww mm"), 0, 1), api.WringPerhaps},
		{faced("ss ww"), api.WringNever}, {faced("ws ws ws"), api.WringNever}, {faced("ms ms ms"), api.WringNever}, {faced("mm mm mm mm ss"), api.WringNever}, {apart(faced("ww ww"), 0, 1), api.WringNever}, {apart(faced("mm mm"), 1, 0), api.WringNever}, {apart(faced("ww ww ww"), 0, 1, 1, 2), api.WringNever}, {apart(faced("mm mm ms"), 0, 1), api.WringNever},
	} {
		same(t, "Hope", two(wring.Hope(x.w)), number(x.hope))
	}
}

// TestMost: P5.7. Of as many blocks the least number is meant, and one block alone always holds.
func TestMost(t *testing.T) {
	free := faced("ww ww ww")
	for _, x := range []struct {
		w            api.Wring
		many, blocks int
	}{
		{faced("ss"), 1, 1}, {faced("ss ww"), 1, 1}, {faced("ww ss"), 1, 1}, {faced("mm mm mm mm mm"), 1, 1}, {faced("ss ww ww"), 2, 6}, {faced("ww ss ww"), 2, 5}, {faced("ws ws ws"), 2, 3}, {faced("ww ww ww ww ww"), 5, 31},
		{apart(free, 0, 1), 3, 7}, {apart(free, 0, 1, 0, 2), 2, 6}, {apart(free, 1, 0, 2, 1), 2, 5}, {apart(free, 0, 1, 1, 2, 2, 0), 1, 1},
		{faced("ww mm mm ww"), 2, 9}, {faced("mm mm ww ww ww"), 3, 28}, {faced("ws ss ww sw"), 3, 13}, {faced("ws ws ww ws"), 3, 7}, {apart(faced("ws ws ww ws"), 0, 2), 3, 14}, {apart(faced("ww ww ww ww ww"), 0, 1, 0, 2, 0, 3, 0, 4), 4, 30},
	} {
		same(t, "Most", three(wring.Most(x.w)), numbers(x.many, x.blocks))
	}
}

// TestPolish: P5.8. A face that is perhaps scratched has to be polished as one that is; of as many faces the least number is meant.
func TestPolish(t *testing.T) {
	for _, x := range []struct {
		w           api.Wring
		many, faces int
	}{
		{faced("ss"), 0, 0}, {faced("ww ww ww ww ww"), 0, 0}, {faced("ws ws ww"), 0, 0}, {apart(faced("ww ww ww"), 0, 1), 0, 0},
		{faced("ss ss"), 2, 5}, {faced("mm mm"), 2, 5}, {faced("ms sm"), 2, 5}, {faced("ws ss"), 1, 4}, {faced("sw sm"), 1, 4}, {faced("sm ws"), 1, 1}, {faced("ss ww"), 1, 1}, {faced("ws ws ws"), 1, 2}, {faced("sw sw sw"), 1, 1}, {faced("ww mm ss"), 2, 20}, {faced("ms ms ws"), 3, 7},
		{faced("ss ss ss ss ss"), 8, 383}, {faced("mm mm mm mm mm"), 8, 383}, {apart(faced("ss ss ss"), 0, 1), 4, 53}, {apart(faced("mw wm ms"), 1, 0), 2, 48}, {apart(faced("ww mw wm"), 1, 0), 1, 32},
	} {
		same(t, "Polish", three(wring.Polish(x.w)), numbers(x.many, x.faces))
	}
	for _, w := range []api.Wring{apart(faced("ww ww"), 0, 1), apart(faced("ss ms"), 1, 0), apart(faced("ww ww ww"), 0, 1, 2, 1), apart(faced("ss ww mm ww ww"), 0, 1, 0, 2, 0, 3, 0, 4)} {
		same(t, "Polish", three(wring.Polish(w)), nones())
	}
}

// call is one call of a function of the package, as the list of all its results, and whether it takes a stack.
type call struct {
	name  string
	stack bool
	do    func(w api.Wring, stack []api.WringPlace) []any
}

func calls() []call {
	list := func(results ...any) []any { return results }
	return []call{
		{"Check", true, func(w api.Wring, s []api.WringPlace) []any { i, r, e := wring.Check(w, s); return list(i, r, e) }},
		{"Holds", true, func(w api.Wring, s []api.WringPlace) []any { n, e := wring.Holds(w, s); return list(n, e) }},
		{"Length", true, func(w api.Wring, s []api.WringPlace) []any { l, e := wring.Length(w, s); return list(l, e) }},
		{"Count", false, func(w api.Wring, _ []api.WringPlace) []any { n, e := wring.Count(w); return list(n, e) }},
		{"Best", false, func(w api.Wring, _ []api.WringPlace) []any { f, s, e := wring.Best(w); return list(f, s, e) }},
		{"Hope", false, func(w api.Wring, _ []api.WringPlace) []any { n, e := wring.Hope(w); return list(n, e) }},
		{"Most", false, func(w api.Wring, _ []api.WringPlace) []any { n, b, e := wring.Most(w); return list(n, b, e) }},
		{"Polish", false, func(w api.Wring, _ []api.WringPlace) []any { n, f, e := wring.Polish(w); return list(n, f, e) }},
	}
}

func errorOf(results []any) api.Errno { return results[len(results)-1].(api.Errno) }

// wantError fails unless a call returns an error, and zero values beside it.
func wantError(t *testing.T, c call, w api.Wring, stack []api.WringPlace, e api.Errno) {
	t.Helper()
	results := c.do(w, stack)
	for _, r := range results[:len(results)-1] {
		if !reflect.ValueOf(r).IsZero() {
			t.Errorf("%s of %v, %v: result %v beside an error", c.name, w, stack, r)
		}
	}
	if errorOf(results) != e {
		t.Errorf("%s of %v, %v: error %v, want %v", c.name, w, stack, errorOf(results), e)
	}
}

// strange are spans that are never valid where numbers are small, whichever of them they have to keep to.
func strange(more ...api.Span) []api.Span {
	return append(more,
		span(1, 0), span(3, 2), span(0, -1), span(-1, 0), span(-1, -1), span(math.MinInt, math.MaxInt), span(math.MaxInt, math.MinInt), span(math.MinInt, 0), span(0, math.MaxInt),
		span(math.MinInt, math.MinInt), span(math.MaxInt, math.MaxInt), span(0, math.MinInt), span(math.MaxInt, 0), span(math.MinInt, 3), span(3, math.MaxInt),
	)
}

// changes are ways to change the wring W; each one alone is enough to make it invalid.
func changes() []func(w *api.Wring) {
	some := wringW().Blocks[0]
	list := []func(w *api.Wring){
		func(w *api.Wring) { w.Blocks = nil },
		func(w *api.Wring) { w.Blocks = []api.WringBlock{} },
		func(w *api.Wring) { w.Blocks = make([]api.WringBlock, 3) },
		func(w *api.Wring) { w.Blocks = slices.Repeat([]api.WringBlock{some}, 6) },
		func(w *api.Wring) { w.Blocks = slices.Repeat([]api.WringBlock{some}, 64) },
		func(w *api.Wring) { w.Blocks = slices.Repeat([]api.WringBlock{some}, 100000) },
		func(w *api.Wring) { w.Apart = slices.Repeat([]api.WringApart{{A: 0, B: 1}}, 7) },
		func(w *api.Wring) { w.Apart = slices.Repeat([]api.WringApart{{A: 0, B: 1}}, 100000) },
		func(w *api.Wring) { w.Apart = make([]api.WringApart, 1) },
	}
	for _, a := range []api.WringApart{{A: 0, B: 0}, {A: 2, B: 2}, {A: 0, B: 3}, {A: 3, B: 0}, {A: 3, B: 4}, {A: -1, B: 0}, {A: 1, B: -1}, {A: 0, B: math.MaxInt}, {A: math.MinInt, B: 1}, {A: 0, B: 64}, {A: 1 << 32, B: 1}} {
		list = append(list, func(w *api.Wring) { w.Apart = []api.WringApart{a} }, func(w *api.Wring) { w.Apart = []api.WringApart{{A: 0, B: 1}, {A: 2, B: 1}, a} })
	}
	for i := range 3 {
		for _, s := range strange(span(0, 0), span(0, 1), span(1, 201), span(201, 201), span(0, 201)) {
			list = append(list, func(w *api.Wring) { w.Blocks[i].Length = s })
		}
		for side := range 2 {
			for _, s := range strange(span(0, 6), span(5, 6), span(6, 6), span(-1, 5)) {
				list = append(list, func(w *api.Wring) { w.Blocks[i].Faces[side].Rough = s })
			}
			for _, n := range []int{-1, 3, 4, 256, 1 << 32, math.MinInt, math.MaxInt} {
				list = append(list, func(w *api.Wring) { w.Blocks[i].Faces[side].State = n })
			}
		}
	}
	return list
}

// badStacks are lists that are not stacks of the wring W.
func badStacks() [][]api.WringPlace {
	list := [][]api.WringPlace{nil, {}, places("0/0 0/0"), places("0/0 0/1"), places("0/0 1/0 0/0"), places("1/0 2/0 2/0"), places("0/0 1/0 2/0 0/1"), places("0/0 1/0 2/0 3/0"), slices.Repeat(places("0/0"), 100000), slices.Repeat(places("0/0 1/0 2/0"), 7)}
	for _, n := range []int{math.MinInt, -64, -1, 3, 64, 1 << 32, math.MaxInt} {
		list = append(list, []api.WringPlace{{Block: n, Up: 0}}, append(places("0/0 1/0"), api.WringPlace{Block: n, Up: 1}))
	}
	for _, n := range []int{math.MinInt, -2, -1, 2, 3, 1 << 32, math.MaxInt} {
		list = append(list, []api.WringPlace{{Block: 0, Up: n}}, append(places("0/0 1/0"), api.WringPlace{Block: 2, Up: n}))
	}
	return list
}

// TestInvalid: the section Errors, R1, R2, R8 and P1. A wring that is not valid comes before all other errors.
func TestInvalid(t *testing.T) {
	for _, change := range changes() {
		w := wringW()
		change(&w)
		for _, c := range calls() {
			for _, stack := range [][]api.WringPlace{places("0/0 1/0 2/0"), places("1/0"), nil, places("0/0 0/0"), {{Block: math.MinInt, Up: math.MaxInt}}} {
				wantError(t, c, w, stack, api.ErrArg)
			}
		}
	}
}

// TestRange: the section Errors. What is no stack comes before ErrNone; a block that there is not in one wring can be there in another one.
func TestRange(t *testing.T) {
	for _, stack := range badStacks() {
		for _, w := range []api.Wring{wringW(), wringX(), faced("ss ss ss"), faced("ww ww ww")} {
			for _, c := range calls() {
				if c.stack {
					wantError(t, c, w, stack, api.ErrRange)
				}
			}
		}
	}
	all := faced("ww ww ww ww ww")
	for n := 1; n <= 5; n++ {
		w := api.Wring{Blocks: all.Blocks[:n]}
		for block := range 7 {
			stack := []api.WringPlace{{Block: block, Up: 1}}
			if block < n {
				same(t, "Length", two(wring.Length(w, stack)), long(10, 10))
			} else {
				wantError(t, calls()[2], w, stack, api.ErrRange)
			}
		}
	}
}

// TestLimits: R7. What just keeps to each limit is valid.
func TestLimits(t *testing.T) {
	limit := func(b api.WringBlock) api.Wring {
		return apart(api.Wring{Blocks: slices.Repeat([]api.WringBlock{b}, 5)}, 0, 1, 1, 0, 0, 1, 4, 3, 3, 4, 4, 3)
	}
	for _, w := range []api.Wring{limit(block(200, 200, whole(5, 5), whole(0, 0))), limit(block(1, 1, whole(0, 5), whole(5, 5))), limit(block(1, 200, whole(0, 5), whole(0, 5)))} {
		for _, c := range calls() {
			if e := errorOf(c.do(w, places("0/0 2/0 4/0 1/0 3/0"))); e != api.OK && (e != api.ErrNone || c.name != "Check") {
				t.Errorf("%s of %v: error %v", c.name, w, e)
			}
		}
	}
	same(t, "the limits", []int{api.WringBlocks, api.WringAparts, api.WringLength, api.WringRough}, []int{5, 6, 200, 5})
	same(t, "the states", []int{api.WringWhole, api.WringMaybe, api.WringScratched}, []int{0, 1, 2})
}

// TestNilAndEmpty: R3. A nil list is an empty one.
func TestNilAndEmpty(t *testing.T) {
	for _, c := range calls() {
		a, b := wringW(), wringW()
		a.Apart, b.Apart = nil, []api.WringApart{}
		same(t, c.name, c.do(a, places("0/0 1/0 2/0")), c.do(b, places("0/0 1/0 2/0")))
		same(t, c.name, c.do(a, nil), c.do(a, []api.WringPlace{}))
		a.Blocks, b.Blocks = nil, []api.WringBlock{}
		same(t, c.name, c.do(a, places("0/0")), c.do(b, places("0/0")))
	}
}

// TestMemory: R4. No argument is changed, also behind its end, and a result shares no memory with another one.
func TestMemory(t *testing.T) {
	for _, w := range []api.Wring{wringW(), wringX(), faced("ss ms sm"), apart(faced("ww ww ww"), 0, 2)} {
		w.Apart = append(w.Apart, api.WringApart{A: 7, B: 7})
		stack := places("0/0 1/0 2/0 0/0")
		before := clone(w)
		for _, c := range calls() {
			c.do(api.Wring{Blocks: w.Blocks, Apart: w.Apart[:len(w.Apart)-1]}, stack[:3])
			c.do(api.Wring{Blocks: w.Blocks[:2], Apart: w.Apart[:0]}, stack[:1])
		}
		same(t, "the wring", w, before)
		same(t, "the stack", stack, places("0/0 1/0 2/0 0/0"))
	}
	w := wringW()
	_, first, _ := wring.Best(w)
	_, second, _ := wring.Best(w)
	clear(first[:cap(first)])
	same(t, "Best", second, places("0/0 1/0 2/0"))
	same(t, "Best", three(wring.Best(w)), bestOf(7, second))
}
