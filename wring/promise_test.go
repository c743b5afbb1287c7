package wring_test

import (
	"slices"
	"testing"

	"blockworks/api"
	"blockworks/wring"
)

// cases is how many wrings each of these tests goes through.
const cases = 600

// TestModel: P5.1 to P5.8, of many wrings.
func TestModel(t *testing.T) {
	c := chance(1)
	seen := map[string]int{}
	for range cases {
		w := c.wring(4)
		if c.below(20) == 0 {
			w = c.wring(5)
		}
		m := modelOf(w)
		hope := m.hope()
		same(t, "Count", two(wring.Count(w)), number(m.count()))
		same(t, "Best", three(wring.Best(w)), m.best())
		same(t, "Hope", two(wring.Hope(w)), number(hope))
		same(t, "Most", three(wring.Most(w)), m.most())
		same(t, "Polish", three(wring.Polish(w)), m.polish())
		for range 10 {
			compareStack(t, w, c.stack(w))
		}
		if t.Failed() {
			t.Fatalf("the wring is %v", w)
		}
		seen[[]string{"never", "perhaps", "always"}[hope]]++
		if _, _, e := wring.Polish(w); e != api.OK {
			seen["none"]++
		}
	}
	for _, kind := range []string{"never", "perhaps", "always", "none"} {
		if seen[kind] < cases/20 {
			t.Errorf("of %d wrings only %d are of the kind %s", cases, seen[kind], kind)
		}
	}
}

func compareStack(t *testing.T, w api.Wring, stack []api.WringPlace) {
	t.Helper()
	is := modelLength(w, stack)
	same(t, "Check", three(wring.Check(w, stack)), modelCheck(w, stack))
	same(t, "Holds", two(wring.Holds(w, stack)), number(modelHolds(w, stack)))
	same(t, "Length", two(wring.Length(w, stack)), long(is.Lo, is.Hi))
}

// TestTrue: P5.9, P2 and P5. Whichever faces truly are scratched, and however rough they and however long blocks truly are, a stack that is told always to hold does, its length is within what is told, and its film is no more than is told.
func TestTrue(t *testing.T) {
	c := chance(2)
	for range cases * 4 {
		w := c.wring(5)
		stack := c.stack(w)
		holds, e := wring.Holds(w, stack)
		length, f := wring.Length(w, stack)
		joint, rule, g := wring.Check(w, stack)
		if e != api.OK || f != api.OK || (g == api.OK) == (holds == api.WringAlways) {
			t.Fatalf("%v, %v: %d, %v; %v; %d, %d, %v", w, stack, holds, e, f, joint, rule, g)
		}
		film, best, none := wring.Best(w)
		hope, _ := wring.Hope(w)
		for range 20 {
			is := c.truth(w)
			if so := is.holds(w, stack); so && holds == api.WringNever || !so && holds == api.WringAlways {
				t.Fatalf("%v: that %v holds is %v, and %d is told", w, stack, so, holds)
			}
			if !inside(is.long(stack), length) {
				t.Fatalf("%v: %v is %d long, and %v is told", w, stack, is.long(stack), length)
			}
			if none == api.OK && (!is.holds(w, best) || is.film(best) > film) {
				t.Fatalf("%v: the film of %v, which holds: %v, is %d, and %d is told", w, best, is.holds(w, best), is.film(best), film)
			}
			if len(stack) == len(w.Blocks) && is.holds(w, stack) && hope == api.WringNever {
				t.Fatalf("%v: %v holds, and there is no hope", w, stack)
			}
		}
	}
}

// known returns a wring in which all blocks are as long, and all faces as rough, as an end tells.
func known(w api.Wring, end func(api.Span) int) api.Wring {
	at := func(s api.Span) api.Span { return span(end(s), end(s)) }
	w = clone(w)
	for i := range w.Blocks {
		b := &w.Blocks[i]
		b.Length, b.Faces[0].Rough, b.Faces[1].Rough = at(b.Length), at(b.Faces[0].Rough), at(b.Faces[1].Rough)
	}
	return w
}

// TestEnds: P5.9. Both ends of a length are those of a truth, and the film of the best stack is one, too.
func TestEnds(t *testing.T) {
	c := chance(3)
	for range cases * 2 {
		w := c.wring(5)
		stack := c.stack(w)
		low := known(w, func(s api.Span) int { return s.Lo })
		high := known(w, func(s api.Span) int { return s.Hi })
		is, _ := wring.Length(w, stack)
		same(t, "Length of the least", two(wring.Length(low, stack)), long(is.Lo, is.Lo))
		same(t, "Length of the greatest", two(wring.Length(high, stack)), long(is.Hi, is.Hi))
		same(t, "Best of the greatest", three(wring.Best(high)), three(wring.Best(w)))
		if film, best, e := wring.Best(w); e == api.OK {
			same(t, "the film of the best", film, modelFilm(w, best).Hi)
		}
		if t.Failed() {
			t.Fatalf("%v, %v", w, stack)
		}
	}
}

// turned returns a stack upside down.
func turned(stack []api.WringPlace) []api.WringPlace {
	var list []api.WringPlace
	for _, p := range slices.Backward(stack) {
		list = append(list, api.WringPlace{Block: p.Block, Up: 1 - p.Up})
	}
	return list
}

// TestTurned: P5.9. A stack that is turned upside down holds just as well, and is as long.
func TestTurned(t *testing.T) {
	c := chance(4)
	for range cases * 4 {
		w := c.wring(5)
		stack := c.stack(w)
		over := turned(stack)
		same(t, "Holds", two(wring.Holds(w, over)), two(wring.Holds(w, stack)))
		same(t, "Length", two(wring.Length(w, over)), two(wring.Length(w, stack)))
		_, _, e := wring.Check(w, stack)
		_, _, f := wring.Check(w, over)
		same(t, "Check", f, e)
		if t.Failed() {
			t.Fatalf("%v, %v", w, stack)
		}
	}
}

// better returns a wring of which a face is better known to be whole, or of which two blocks more may touch.
func (c *chance) better(w api.Wring) api.Wring {
	w = clone(w)
	if len(w.Apart) > 0 && c.below(2) == 0 {
		i := c.below(len(w.Apart))
		w.Apart = slices.Delete(w.Apart, i, i+1)
		return w
	}
	face := &w.Blocks[c.below(len(w.Blocks))].Faces[c.below(2)]
	face.State = max(face.State-1, api.WringWhole)
	return w
}

// told is the first number that a call returns, and whether there is one.
func told[A any](n int, _ A, e api.Errno) (int, bool) { return n, e == api.OK }

// TestBetter: P5.10 and P2. With a face that is better known to be whole, or a pair less in Apart, no stack holds less, nor fewer blocks can be wrung.
func TestBetter(t *testing.T) {
	c := chance(5)
	changed := 0
	for range cases {
		w := c.wring(5)
		v := c.better(w)
		stack := c.stack(w)
		holds, _ := wring.Holds(w, stack)
		count, _ := wring.Count(w)
		hope, _ := wring.Hope(w)
		if is, _ := wring.Holds(v, stack); is < holds {
			t.Fatalf("%v of %v: %d, and of %v: %d", stack, w, holds, v, is)
		}
		if is, _ := wring.Count(v); is < count {
			t.Fatalf("Count of %v: %d, and of %v: %d", w, count, v, is)
		} else if is > count {
			changed++
		}
		if is, _ := wring.Hope(v); is < hope {
			t.Fatalf("Hope of %v: %d, and of %v: %d", w, hope, v, is)
		}
		noMore(t, "Most", v, w, most)
		noMore(t, "Best", w, v, best)
		noMore(t, "Polish", w, v, polish)
	}
	if changed < cases/20 {
		t.Errorf("only %d wrings are told to be better", changed)
	}
}

// best, polish and most return the least film, how few faces have to be polished, and how many blocks can be wrung; and whether that is told.
func best(w api.Wring) (int, bool)   { return told(wring.Best(w)) }
func polish(w api.Wring) (int, bool) { return told(wring.Polish(w)) }
func most(w api.Wring) (int, bool)   { return told(wring.Most(w)) }

// noMore fails if a number is greater of v than of w, or is told of w alone.
func noMore(t *testing.T, name string, w, v api.Wring, of func(api.Wring) (int, bool)) {
	t.Helper()
	was, had := of(w)
	is, has := of(v)
	if had && (!has || is > was) {
		t.Fatalf("%s of %v: %d, and of %v: %d, %v", name, w, was, v, is, has)
	}
}

// TestRougher: P5.10. With rougher faces no film is less; and which stacks hold makes no difference.
func TestRougher(t *testing.T) {
	c := chance(6)
	for range cases {
		w := c.wring(5)
		v := clone(w)
		for i := range v.Blocks {
			for side := range 2 {
				rough := &v.Blocks[i].Faces[side].Rough
				rough.Lo = c.between(rough.Lo, min(api.WringRough, rough.Lo+c.below(3)))
				rough.Hi = c.between(max(rough.Lo, rough.Hi), api.WringRough)
			}
		}
		noMore(t, "Best", v, w, best)
		stack := c.stack(w)
		was, _ := wring.Length(w, stack)
		is, _ := wring.Length(v, stack)
		if is.Lo < was.Lo || is.Hi < was.Hi {
			t.Fatalf("%v: the length of %v is %v, and of %v %v", stack, w, was, v, is)
		}
		for _, call := range calls() {
			if call.name != "Length" && call.name != "Best" {
				same(t, call.name, call.do(v, stack), call.do(w, stack))
			}
		}
		if t.Failed() {
			t.Fatalf("%v, %v", w, v)
		}
	}
}

// renumbered returns a wring whose blocks have other numbers, and of which the faces of some blocks change places.
func renumbered(w api.Wring, to []int, swapped int) api.Wring {
	v := api.Wring{Blocks: make([]api.WringBlock, len(w.Blocks))}
	for i, b := range w.Blocks {
		if has(swapped, i) {
			b.Faces[0], b.Faces[1] = b.Faces[1], b.Faces[0]
		}
		v.Blocks[to[i]] = b
	}
	for _, a := range w.Apart {
		v.Apart = append(v.Apart, api.WringApart{A: to[a.A], B: to[a.B]})
	}
	return v
}

// TestNumbers: P5.10 and P11. If blocks are numbered otherwise, or the faces of a block change places, as many stacks hold, with as little film; and the same stack holds as well, and is as long.
func TestNumbers(t *testing.T) {
	c := chance(7)
	for range cases / 2 {
		w := c.wring(5)
		to, swapped := c.order(len(w.Blocks)), c.below(32)
		v := renumbered(w, to, swapped)
		var moved []api.WringPlace
		stack := c.stack(w)
		for _, p := range stack {
			moved = append(moved, api.WringPlace{Block: to[p.Block], Up: p.Up ^ swapped>>p.Block&1})
		}
		same(t, "Check", three(wring.Check(v, moved)), three(wring.Check(w, stack)))
		same(t, "Holds", two(wring.Holds(v, moved)), two(wring.Holds(w, stack)))
		same(t, "Length", two(wring.Length(v, moved)), two(wring.Length(w, stack)))
		same(t, "Count", two(wring.Count(v)), two(wring.Count(w)))
		same(t, "Hope", two(wring.Hope(v)), two(wring.Hope(w)))
		for _, of := range []func(api.Wring) (int, bool){best, polish, most} {
			was, had := of(w)
			is, has := of(v)
			same(t, "the film, or how many", []any{is, has}, []any{was, had})
		}
		if t.Failed() {
			t.Fatalf("%v, %v; %v, %v", w, stack, v, moved)
		}
	}
}

// TestApart: P11. Neither the order of pairs, nor that in a pair, nor a pair that is there twice makes a difference.
func TestApart(t *testing.T) {
	c := chance(8)
	for range cases / 2 {
		w := c.wring(5)
		v := clone(w)
		for i, n := range c.order(len(w.Apart)) {
			v.Apart[i] = w.Apart[n]
			if c.below(2) == 0 {
				v.Apart[i] = api.WringApart{A: w.Apart[n].B, B: w.Apart[n].A}
			}
		}
		if n := len(v.Apart); n > 0 && n < api.WringAparts {
			v.Apart = append(v.Apart, v.Apart[c.below(n)])
		}
		stack := c.stack(w)
		for _, call := range calls() {
			same(t, call.name, call.do(v, stack), call.do(w, stack))
		}
		if t.Failed() {
			t.Fatalf("%v, %v", w, v)
		}
	}
}

// TestOneAnother: P5. What is told of all stacks together is what Holds and Length tell of each of them, and polishing what is told is enough.
func TestOneAnother(t *testing.T) {
	c := chance(9)
	for range cases / 4 {
		w := c.wring(4)
		count, hope := 0, api.WringNever
		for _, p := range modelOf(w).stacks {
			if len(p.stack) < len(w.Blocks) {
				continue
			}
			holds, _ := wring.Holds(w, p.stack)
			hope = max(hope, holds)
			if holds == api.WringAlways {
				count++
			}
		}
		same(t, "Count", two(wring.Count(w)), number(count))
		same(t, "Hope", two(wring.Hope(w)), number(hope))
		if _, stack, e := wring.Best(w); e == api.OK {
			same(t, "Holds of the best", two(wring.Holds(w, stack)), number(api.WringAlways))
		}
		if _, faces, e := wring.Polish(w); e == api.OK {
			same(t, "Hope when polished", two(wring.Hope(smoothed(w, faces))), number(api.WringAlways))
		}
		if t.Failed() {
			t.Fatalf("the wring is %v", w)
		}
	}
}

// TestReplay: P11. The same call returns the same, however often it is made.
func TestReplay(t *testing.T) {
	c := chance(10)
	for range cases / 4 {
		w := c.wring(5)
		stack := c.stack(w)
		for _, call := range calls() {
			first := call.do(w, stack)
			for range 3 {
				same(t, call.name, call.do(w, stack), first)
			}
		}
	}
}
