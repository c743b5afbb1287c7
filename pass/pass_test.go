package pass_test

import (
	"reflect"
	"testing"

	"blockworks/api"
	"blockworks/pass"
)

// passP is the certificates of the chapter's examples.
func passP() api.Pass {
	return made(3, 5, paper(0, standard, 2, 1, 1), paper(1, 0, 3, 3, 2), paper(2, 1, 1, 4, 0), paper(2, 0, 9, 2, 0))
}

func made(items, age int, papers ...api.PassPaper) api.Pass {
	return api.Pass{Items: items, Age: age, Papers: papers}
}

// same fails unless what a call returned is what is wanted.
func same(t *testing.T, call string, got, want any) {
	t.Helper()
	if !reflect.DeepEqual(got, want) {
		t.Errorf("%s: got %v, want %v", call, got, want)
	}
}

// two puts the results of a call into one value, and so do row, of a list, and three. A list is one that is nil if it is empty, as both are the same.
func two[A any](a A, e api.Errno) [2]any    { return [2]any{a, e} }
func row(numbers []int, e api.Errno) [2]any { return [2]any{append([]int(nil), numbers...), e} }
func three(a, b int, e api.Errno) [3]any    { return [3]any{a, b, e} }

func number(n int) [2]any         { return two(n, api.OK) }
func none() [2]any                { return two(0, api.ErrNone) }
func list(numbers ...int) [2]any  { return row(numbers, api.OK) }
func noList() [2]any              { return row(nil, api.ErrNone) }
func sets(worse, lost int) [3]any { return three(worse, lost, api.OK) }

func TestExamples(t *testing.T) {
	p := passP()
	same(t, "Bound 0 in 1", two(pass.Bound(p, 0, 1)), number(2))
	same(t, "Bound 0 in 4", two(pass.Bound(p, 0, 4)), number(5))
	same(t, "Bound 0 in 7", two(pass.Bound(p, 0, 7)), none())
	same(t, "Bound 1 in 3", two(pass.Bound(p, 1, 3)), number(7))
	same(t, "Bound 1 in 5", two(pass.Bound(p, 1, 5)), number(11))
	same(t, "Bound 2 in 4", two(pass.Bound(p, 2, 4)), number(10))
	same(t, "Bound 2 in 8", two(pass.Bound(p, 2, 8)), number(10))
	same(t, "Chain 2 in 4", row(pass.Chain(p, 2, 4)), list(2, 1, 0))
	same(t, "Known in 4", two(pass.Known(p, 4)), number(7))
	same(t, "Known in 7", two(pass.Known(p, 7)), number(6))
	same(t, "Known in 10", two(pass.Known(p, 10)), number(0))
	same(t, "Until 1 from 3, 12", two(pass.Until(p, 1, 3, 12)), number(5))
	same(t, "Until 2 from 4, 10", two(pass.Until(p, 2, 4, 10)), number(9))
	same(t, "Until 0 from 7, 99", two(pass.Until(p, 0, 7, 99)), none())
	same(t, "Together 0 2 in 4", two(pass.Together(p, 5, 4)), number(15))
	same(t, "Together 0 in 7", two(pass.Together(p, 1, 7)), none())
	same(t, "Recall 1 in 4", three(pass.Recall(p, 1, 4)), sets(6, 2))
	same(t, "Recall 0 in 4", three(pass.Recall(p, 0, 4)), sets(7, 7))
	same(t, "Renew in 7, 12", two(pass.Renew(p, 7, 12)), number(3))
	same(t, "Renew in 7, 15", two(pass.Renew(p, 7, 15)), number(1))
	same(t, "Renew in 7, 1", two(pass.Renew(p, 7, 1)), none())
}

// from0 returns what Bound is to return in each year from 0 on; -1 stands for none.
func from0(bounds ...int) []any {
	var list []any
	for _, n := range bounds {
		if n < 0 {
			list = append(list, none())
			continue
		}
		list = append(list, number(n))
	}
	return list
}

// TestBound: P10.1. A certificate holds from its year to its last one; what an item was measured by counts in the year of that.
func TestBound(t *testing.T) {
	for _, x := range []struct {
		p      api.Pass
		item   int
		bounds []any
	}{
		{made(1, 0), 0, from0(-1, -1, -1)},
		{made(1, 20), 0, from0(-1, -1, -1)},
		{made(1, 0, paper(0, standard, 0, 0, 0)), 0, from0(0, -1)},
		{made(1, 0, paper(0, standard, 3, 1, 10)), 0, from0(-1, 3, -1)},
		{made(1, 2, paper(0, standard, 3, 1, 0)), 0, from0(-1, 3, 3, 3, -1)},
		{made(1, 2, paper(0, standard, 3, 1, 10)), 0, from0(-1, 3, 13, 23, -1)},
		{made(1, 2, paper(0, standard, 0, 1, 1)), 0, from0(-1, 0, 1, 2, -1)},
		// The least of several counts, and each one in its years.
		{made(1, 3, paper(0, standard, 0, 0, 4), paper(0, standard, 7, 0, 0), paper(0, standard, 1, 3, 3)), 0, from0(0, 4, 7, 1, 4, 7, 10, -1)},
		{made(1, 3, paper(0, standard, 5, 0, 0), paper(0, standard, 9, 2, 0)), 0, from0(5, 5, 5, 5, 9, 9, -1)},
		// What an item was measured by is asked in the year of that alone: it may be worse later, or hold no more, and it may become better too late.
		{made(2, 2, paper(1, standard, 2, 1, 3), paper(0, 1, 1, 2, 1)), 0, from0(-1, -1, 6, 7, 8, -1)},
		{made(2, 2, paper(1, standard, 2, 1, 3), paper(0, 1, 1, 3, 1)), 0, from0(-1, -1, -1, 9, 10, 11, -1)},
		{made(2, 2, paper(1, standard, 2, 1, 3), paper(0, 1, 1, 4, 1)), 0, from0(-1, -1, -1, -1, -1, -1, -1)},
		{made(2, 2, paper(1, standard, 2, 1, 3), paper(0, 1, 1, 0, 1)), 0, from0(-1, -1, -1, -1)},
		{made(2, 2, paper(1, standard, 2, 1, 3), paper(0, 1, 1, 1, 1)), 0, from0(-1, 3, 4, 5, -1)},
		{made(2, 2, paper(1, standard, 9, 0, 0), paper(0, 1, 1, 1, 0), paper(1, standard, 0, 2, 0)), 0, from0(-1, 10, 10, 10, -1)},
		{made(2, 4, paper(1, standard, 9, 0, 0), paper(0, 1, 1, 1, 0), paper(1, standard, 0, 2, 0), paper(0, 1, 2, 3, 5)), 0, from0(-1, 10, 10, 2, 7, 10, 17, 22, -1)},
		// What is measured later by what adds less can be better, and what is measured by the standard worse.
		{made(3, 5, paper(0, standard, 20, 0, 0), paper(0, 1, 1, 0, 0), paper(1, 2, 1, 0, 0), paper(2, standard, 1, 0, 0)), 0, from0(3, 3, 3, 3, 3, 3, -1)},
		{made(3, 5, paper(0, standard, 2, 0, 0), paper(0, 1, 1, 0, 0), paper(1, 2, 1, 0, 0), paper(2, standard, 1, 0, 0)), 0, from0(2, 2)},
		// Items that were measured by one another alone are not known.
		{made(2, 5, paper(0, 1, 1, 0, 0), paper(1, 0, 1, 0, 0)), 0, from0(-1, -1)},
		{made(3, 5, paper(0, 1, 0, 0, 0), paper(1, 2, 0, 0, 0), paper(2, 0, 0, 0, 0)), 1, from0(-1, -1)},
		{made(3, 5, paper(0, 1, 0, 0, 0), paper(1, 2, 0, 0, 0), paper(2, 0, 0, 0, 0), paper(1, standard, 4, 0, 0)), 0, from0(4, 4)},
		{made(3, 5, paper(0, 1, 0, 0, 0), paper(1, 2, 0, 0, 0), paper(2, 0, 0, 0, 0), paper(1, standard, 4, 0, 0)), 2, from0(4, 4)},
		{made(3, 5, paper(0, 1, 0, 0, 0), paper(1, 2, 0, 0, 0), paper(2, 0, 0, 0, 0), paper(1, standard, 4, 0, 1)), 2, from0(4, 4)},
		// An item can be in its own chain, as it was in a year before.
		{made(2, 2, paper(0, standard, 1, 0, 2), paper(1, 0, 1, 2, 0), paper(0, 1, 1, 4, 0)), 0, from0(1, 3, 5, -1, 7, 7, 7, -1)},
		{made(2, 9, paper(0, standard, 1, 0, 10), paper(1, 0, 1, 1, 0), paper(0, 1, 1, 3, 0)), 0, from0(1, 11, 21, 13, 13)},
		{made(2, 9, paper(0, 1, 1, 3, 0), paper(1, 0, 1, 1, 0), paper(0, standard, 1, 0, 10)), 0, from0(1, 11, 21, 13, 13)},
	} {
		for year, want := range x.bounds {
			same(t, "the table", any(boundOrNone(x.p, x.item, year)), want)
			same(t, "Bound", any(two(pass.Bound(x.p, x.item, year))), want)
		}
		if t.Failed() {
			t.Fatalf("the certificates are %v", x.p)
		}
	}
}

// TestFarthest: P10.1. The longest chains, and the greatest bounds.
func TestFarthest(t *testing.T) {
	six := made(6, 20, paper(0, standard, 50, 0, 10), paper(1, 0, 50, 4, 10), paper(2, 1, 50, 8, 10), paper(3, 2, 50, 12, 10), paper(4, 3, 50, 16, 10), paper(5, 4, 50, 20, 10))
	for item, want := range []int{250, 300, 350, 400, 450, 500} {
		same(t, "Bound", two(pass.Bound(six, item, 20)), number(want))
	}
	pair := made(2, 20, paper(0, standard, 50, 1, 10), paper(1, 0, 50, 2, 10), paper(0, 1, 50, 3, 10), paper(1, 0, 50, 4, 10), paper(0, 1, 50, 5, 10), paper(1, 0, 50, 6, 10), paper(0, 1, 50, 7, 10), paper(1, 0, 50, 8, 10))
	pair.Age = 1
	same(t, "Bound", two(pass.Bound(pair, 1, 9)), number(480))
	same(t, "Chain", row(pass.Chain(pair, 1, 9)), list(7, 6, 5, 4, 3, 2, 1, 0))
	same(t, "Chain", row(pass.Chain(pair, 0, 9)), noList())
	same(t, "Chain", row(pass.Chain(pair, 0, 8)), list(6, 5, 4, 3, 2, 1, 0))
	// All in one year, and each one only by the next one.
	row6 := made(6, 0, paper(4, 5, 1, 20, 0), paper(2, 3, 1, 20, 0), paper(0, 1, 1, 20, 0), paper(1, 2, 1, 20, 0), paper(3, 4, 1, 20, 0), paper(5, standard, 1, 20, 0))
	same(t, "Chain", row(pass.Chain(row6, 0, 20)), list(2, 3, 1, 4, 0, 5))
	same(t, "Bound", two(pass.Bound(row6, 0, 20)), number(6))
	same(t, "Known", two(pass.Known(row6, 20)), number(63))
	same(t, "Together", two(pass.Together(row6, 63, 20)), number(21))
}

// TestChain: P10.2. The least bound comes first, then the fewest certificates, then the lesser number at the first place where chains differ.
func TestChain(t *testing.T) {
	for _, x := range []struct {
		p          api.Pass
		item, year int
		chain      [2]any
	}{
		{made(1, 0), 0, 0, noList()},
		{made(1, 0, paper(0, standard, 5, 3, 0)), 0, 3, list(0)},
		{made(1, 0, paper(0, standard, 5, 3, 0)), 0, 2, noList()},
		{made(1, 0, paper(0, standard, 5, 3, 0)), 0, 4, noList()},
		{made(1, 5, paper(0, standard, 5, 0, 0), paper(0, standard, 5, 0, 0), paper(0, standard, 5, 0, 0)), 0, 1, list(0)},
		{made(1, 5, paper(0, standard, 6, 0, 0), paper(0, standard, 5, 0, 0), paper(0, standard, 5, 0, 0)), 0, 1, list(1)},
		{made(1, 5, paper(0, standard, 5, 0, 1), paper(0, standard, 6, 0, 0)), 0, 0, list(0)},
		{made(1, 5, paper(0, standard, 5, 0, 1), paper(0, standard, 6, 0, 0)), 0, 1, list(0)},
		{made(1, 5, paper(0, standard, 5, 0, 1), paper(0, standard, 6, 0, 0)), 0, 2, list(1)},
		// The same bound by fewer certificates, though they have greater numbers.
		{made(2, 5, paper(0, 1, 1, 0, 0), paper(1, standard, 1, 0, 0), paper(0, standard, 2, 0, 0)), 0, 0, list(2)},
		{made(2, 5, paper(0, 1, 1, 0, 0), paper(1, standard, 1, 0, 0), paper(0, standard, 3, 0, 0)), 0, 0, list(0, 1)},
		{made(3, 5, paper(0, 1, 0, 0, 0), paper(1, 2, 0, 0, 0), paper(2, standard, 0, 0, 0), paper(1, standard, 0, 0, 0)), 0, 0, list(0, 3)},
		{made(3, 5, paper(0, 2, 0, 0, 0), paper(2, 1, 0, 0, 0), paper(0, 1, 0, 0, 0), paper(1, standard, 0, 0, 0)), 0, 0, list(2, 3)},
		{made(4, 5, paper(0, 1, 1, 0, 0), paper(1, 2, 0, 0, 0), paper(2, standard, 2, 0, 0), paper(0, 3, 2, 0, 0), paper(3, standard, 1, 0, 0)), 0, 0, list(3, 4)},
		// As many certificates: the first one counts before the second one.
		{made(3, 5, paper(1, standard, 1, 0, 0), paper(0, 2, 1, 0, 0), paper(0, 1, 1, 0, 0), paper(2, standard, 1, 0, 0)), 0, 0, list(1, 3)},
		{made(3, 5, paper(1, standard, 1, 0, 0), paper(0, 2, 2, 0, 0), paper(0, 1, 1, 0, 0), paper(2, standard, 1, 0, 0)), 0, 0, list(2, 0)},
		{made(2, 5, paper(1, standard, 3, 0, 0), paper(1, standard, 2, 0, 0), paper(1, standard, 2, 0, 0), paper(0, 1, 0, 0, 0), paper(0, 1, 0, 0, 0)), 0, 0, list(3, 1)},
		{made(2, 5, paper(0, 1, 1, 1, 0), paper(0, 1, 0, 2, 0), paper(1, standard, 3, 0, 1), paper(1, standard, 4, 0, 0)), 0, 2, list(1, 3)},
		{made(2, 5, paper(0, 1, 0, 1, 0), paper(0, 1, 0, 2, 0), paper(1, standard, 3, 0, 1), paper(1, standard, 4, 0, 0)), 0, 2, list(0, 2)},
		// Which certificate of the second item is best depends on the year in which the first one was measured.
		{made(2, 5, paper(0, 1, 0, 4, 0), paper(1, standard, 3, 0, 1), paper(1, standard, 5, 0, 0)), 0, 5, list(0, 2)},
		{made(2, 5, paper(0, 1, 0, 1, 0), paper(1, standard, 3, 0, 1), paper(1, standard, 5, 0, 0)), 0, 5, list(0, 1)},
		// An item is in its own chain, but no certificate is twice.
		{made(2, 2, paper(0, standard, 1, 0, 2), paper(1, 0, 1, 2, 0), paper(0, 1, 1, 4, 0)), 0, 4, list(2, 1, 0)},
		{made(2, 0, paper(0, 1, 0, 0, 0), paper(1, 0, 0, 0, 0), paper(1, standard, 0, 0, 0)), 0, 0, list(0, 2)},
		{made(2, 0, paper(0, 1, 0, 0, 0), paper(1, 0, 0, 0, 0), paper(1, standard, 0, 0, 0)), 1, 0, list(2)},
		{made(2, 0, paper(0, 1, 0, 0, 0), paper(1, 0, 0, 0, 0), paper(0, standard, 0, 0, 0)), 0, 0, list(2)},
		{made(2, 0, paper(0, 1, 0, 0, 0), paper(1, 0, 0, 0, 0)), 0, 0, noList()},
		{passP(), 2, 8, list(2, 1, 0)},
		{passP(), 2, 3, list(3, 0)},
		{passP(), 2, 2, list(3, 0)},
		{passP(), 2, 1, noList()},
		{passP(), 1, 8, list(1, 0)},
		{passP(), 1, 9, noList()},
	} {
		same(t, "the table", chainOrNone(x.p, x.item, x.year), x.chain)
		same(t, "Chain", row(pass.Chain(x.p, x.item, x.year)), x.chain)
		if t.Failed() {
			t.Fatalf("the certificates are %v, and the item %d in %d", x.p, x.item, x.year)
		}
	}
}

// TestKnown: P10.3. In each year from 0 on.
func TestKnown(t *testing.T) {
	for _, x := range []struct {
		p     api.Pass
		items []int
	}{
		{made(6, 20), []int{0, 0, 0}},
		{passP(), []int{0, 1, 5, 7, 7, 7, 7, 6, 6, 4, 0, 0}},
		{made(2, 0, paper(0, 1, 0, 1, 0), paper(1, standard, 0, 2, 0)), []int{0, 0, 2, 0}},
		{made(2, 1, paper(0, 1, 0, 2, 0), paper(1, standard, 0, 1, 0)), []int{0, 2, 3, 1, 0}},
		{made(6, 3, paper(5, standard, 0, 0, 0), paper(0, 1, 0, 0, 0), paper(1, 0, 0, 0, 0), paper(3, 5, 50, 1, 0)), []int{32, 40, 40, 40, 8, 0}},
		{made(6, 20, paper(5, 4, 0, 1, 0), paper(4, 3, 0, 1, 0), paper(3, 2, 0, 1, 0), paper(2, 1, 0, 1, 0), paper(1, 0, 0, 1, 0), paper(0, standard, 0, 1, 0)), []int{0, 63, 63}},
		{made(6, 20, paper(5, 4, 0, 1, 0), paper(4, 3, 0, 1, 0), paper(3, 2, 0, 0, 0), paper(2, 1, 0, 1, 0), paper(1, 0, 0, 1, 0), paper(0, standard, 0, 1, 0)), []int{0, 7, 7}},
	} {
		for year, want := range x.items {
			same(t, "the table", known(x.p, year), want)
			same(t, "Known", two(pass.Known(x.p, year)), number(want))
		}
		if t.Failed() {
			t.Fatalf("the certificates are %v", x.p)
		}
	}
}

// TestUntil: P10.4. It ends where a bound is too great, or none, for one year alone, also if it is good again later; and with the last year.
func TestUntil(t *testing.T) {
	gap := made(1, 1, paper(0, standard, 2, 0, 1), paper(0, standard, 3, 3, 0), paper(0, standard, 9, 5, 0), paper(0, standard, 1, 6, 0))
	late := made(1, 20, paper(0, standard, 2, 3, 1))
	again := made(2, 2, paper(1, standard, 1, 0, 0), paper(0, 1, 1, 1, 1), paper(1, standard, 0, 3, 0), paper(0, 1, 2, 4, 0))
	for _, x := range []struct {
		p                 api.Pass
		item, year, limit int
		last              [2]any
	}{
		{made(1, 20), 0, 0, 2000, none()},
		{gap, 0, 0, 2, number(0)}, {gap, 0, 0, 1, none()}, {gap, 0, 0, 3, number(1)}, {gap, 0, 0, 2000, number(1)}, {gap, 0, 1, 2, none()}, {gap, 0, 1, 3, number(1)}, {gap, 0, 2, 2000, none()}, {gap, 0, 3, 2, none()}, {gap, 0, 3, 3, number(4)}, {gap, 0, 3, 8, number(4)}, {gap, 0, 3, 9, number(7)}, {gap, 0, 5, 8, none()}, {gap, 0, 6, 1, number(7)}, {gap, 0, 6, 0, none()}, {gap, 0, 7, 1, number(7)}, {gap, 0, 8, 1, none()},
		{late, 0, 3, 2, number(3)}, {late, 0, 3, 1, none()}, {late, 0, 3, 18, number(19)}, {late, 0, 3, 19, number(20)}, {late, 0, 3, 2000, number(20)}, {late, 0, 20, 19, number(20)}, {late, 0, 20, 18, none()}, {late, 0, 20, 2000, number(20)}, {late, 0, 2, 2000, none()}, {late, 0, 19, 18, number(19)},
		{made(1, 20, paper(0, standard, 0, 0, 0)), 0, 0, 0, number(20)}, {made(1, 20, paper(0, standard, 0, 0, 0)), 0, 20, 0, number(20)}, {made(1, 19, paper(0, standard, 0, 0, 0)), 0, 0, 0, number(19)}, {made(1, 5, paper(0, standard, 0, 18, 0)), 0, 18, 0, number(20)},
		{again, 0, 1, 3, number(2)}, {again, 0, 1, 4, number(6)}, {again, 0, 1, 2, number(1)}, {again, 0, 1, 1, none()}, {again, 0, 4, 2, number(6)}, {again, 0, 4, 1, none()}, {again, 1, 0, 1, number(5)}, {again, 1, 0, 0, none()}, {again, 1, 3, 0, number(5)}, {again, 1, 2, 0, none()},
	} {
		same(t, "the table", until(x.p, x.item, x.year, x.limit), x.last)
		same(t, "Until", two(pass.Until(x.p, x.item, x.year, x.limit)), x.last)
		if t.Failed() {
			t.Fatalf("the certificates are %v, and the item %d from %d, %d", x.p, x.item, x.year, x.limit)
		}
	}
}

// TestTogether: P10.5. Each item of the set counts, and no other one; none at all are wrong by 0.
func TestTogether(t *testing.T) {
	four := made(4, 3, paper(0, standard, 1, 0, 1), paper(1, standard, 10, 0, 0), paper(3, 1, 30, 1, 10))
	for _, x := range []struct {
		p        api.Pass
		set, sum []int
		year     int
	}{
		{made(1, 0), []int{0, 1}, []int{0, -1}, 0},
		{made(6, 0), []int{0, 1, 32, 63}, []int{0, -1, -1, -1}, 20},
		{four, []int{0, 1, 2, 3, 4, 5, 7, 8, 11, 15}, []int{0, 1, 10, 11, -1, -1, -1, -1, -1, -1}, 0},
		{four, []int{0, 1, 2, 3, 4, 8, 9, 10, 11, 12, 15}, []int{0, 3, 10, 13, -1, 50, 53, 60, 63, -1, -1}, 2},
		{four, []int{0, 1, 2, 3, 8, 9, 15}, []int{0, -1, -1, -1, 70, -1, -1}, 4},
		{passP(), []int{0, 1, 2, 3, 4, 5, 6, 7}, []int{0, 5, 9, 14, 10, 15, 19, 24}, 4},
	} {
		for i, set := range x.set {
			want := from0(x.sum[i])[0]
			same(t, "the table", any(together(x.p, set, x.year)), want)
			same(t, "Together", any(two(pass.Together(x.p, set, x.year))), want)
		}
		if t.Failed() {
			t.Fatalf("the certificates are %v, in %d", x.p, x.year)
		}
	}
}

// TestRecall: P10.6. What has no bound anyhow is not worse; what is lost is worse too; another chain may do as well, or less well.
func TestRecall(t *testing.T) {
	twins := made(3, 5, paper(0, standard, 2, 0, 0), paper(0, standard, 2, 0, 0), paper(1, 0, 1, 1, 0), paper(2, 1, 1, 2, 0), paper(2, 0, 3, 2, 0))
	for _, x := range []struct {
		p           api.Pass
		paper, year int
		sets        [3]any
	}{
		{made(1, 0, paper(0, standard, 0, 0, 0)), 0, 0, sets(1, 1)},
		{made(1, 0, paper(0, standard, 0, 0, 0)), 0, 1, sets(0, 0)},
		{made(2, 0, paper(0, 1, 0, 0, 0), paper(1, 0, 0, 0, 0)), 0, 0, sets(0, 0)},
		{twins, 0, 3, sets(0, 0)}, {twins, 1, 3, sets(0, 0)}, {twins, 2, 3, sets(6, 2)}, {twins, 2, 1, sets(2, 2)}, {twins, 2, 0, sets(0, 0)}, {twins, 3, 3, sets(4, 0)}, {twins, 4, 3, sets(0, 0)}, {twins, 4, 8, sets(0, 0)}, {twins, 3, 7, sets(4, 0)},
		{passP(), 0, 1, sets(1, 1)}, {passP(), 0, 8, sets(6, 6)}, {passP(), 1, 8, sets(6, 6)}, {passP(), 1, 7, sets(6, 2)}, {passP(), 2, 4, sets(4, 0)}, {passP(), 2, 8, sets(4, 4)}, {passP(), 3, 4, sets(0, 0)}, {passP(), 3, 3, sets(4, 4)}, {passP(), 0, 10, sets(0, 0)}, {passP(), 3, 0, sets(0, 0)},
		// What another item was measured by may be recalled only later, or earlier.
		{made(2, 5, paper(1, standard, 1, 0, 0), paper(0, 1, 0, 2, 0), paper(1, standard, 0, 3, 0)), 2, 4, sets(2, 0)},
		{made(2, 5, paper(1, standard, 1, 0, 0), paper(0, 1, 0, 2, 0), paper(1, standard, 0, 3, 0)), 0, 4, sets(1, 1)},
		{made(2, 5, paper(1, standard, 1, 0, 0), paper(0, 1, 0, 2, 0), paper(1, standard, 0, 2, 0)), 0, 4, sets(0, 0)},
		{made(2, 5, paper(1, standard, 1, 0, 0), paper(0, 1, 0, 2, 0), paper(1, standard, 0, 2, 0)), 2, 4, sets(3, 0)},
		{made(6, 20, paper(5, 4, 0, 1, 0), paper(4, 3, 0, 1, 0), paper(3, 2, 0, 1, 0), paper(2, 1, 0, 1, 0), paper(1, 0, 0, 1, 0), paper(0, standard, 0, 1, 0), paper(4, standard, 0, 1, 0)), 3, 9, sets(12, 12)},
		{made(6, 20, paper(5, 4, 0, 1, 0), paper(4, 3, 0, 1, 0), paper(3, 2, 0, 1, 0), paper(2, 1, 0, 1, 0), paper(1, 0, 0, 1, 0), paper(0, standard, 0, 1, 0), paper(4, standard, 0, 1, 0)), 5, 9, sets(15, 15)},
		{made(6, 20, paper(5, 4, 0, 1, 0), paper(4, 3, 0, 1, 0), paper(3, 2, 0, 1, 0), paper(2, 1, 0, 1, 0), paper(1, 0, 0, 1, 0), paper(0, standard, 0, 1, 0), paper(4, standard, 1, 1, 0)), 5, 9, sets(63, 15)},
	} {
		same(t, "the table", recall(x.p, x.paper, x.year), x.sets)
		same(t, "Recall", three(pass.Recall(x.p, x.paper, x.year)), x.sets)
		if t.Failed() {
			t.Fatalf("the certificates are %v, and the recalled one is %d, in %d", x.p, x.paper, x.year)
		}
	}
}

// TestRenew: P10.7. The fewest certificates come first, then the least number of the set; each of them stays as it was beside the new one.
func TestRenew(t *testing.T) {
	old := made(2, 3, paper(0, standard, 2, 0, 2), paper(1, 0, 1, 1, 3), paper(1, standard, 6, 0, 1))
	either := made(1, 3, paper(0, standard, 4, 0, 1), paper(0, standard, 3, 1, 1), paper(0, standard, 3, 2, 1))
	later := made(1, 3, paper(0, standard, 4, 9, 5))
	three := made(3, 2, paper(2, 1, 1, 0, 0), paper(1, 0, 1, 0, 0), paper(0, standard, 1, 0, 0), paper(2, standard, 3, 0, 9), paper(1, standard, 9, 0, 0))
	fewer := made(2, 0, paper(0, 1, 1, 0, 0), paper(1, standard, 1, 0, 0), paper(0, standard, 5, 0, 0), paper(1, standard, 9, 9, 0))
	round := made(2, 20, paper(0, 1, 0, 0, 0), paper(1, 0, 0, 1, 0), paper(0, standard, 3, 0, 1))
	for _, x := range []struct {
		p           api.Pass
		year, limit int
		papers      [2]any
	}{
		{made(1, 5), 0, 2000, none()},
		{made(2, 5, paper(0, standard, 0, 0, 0)), 0, 2000, none()},
		{made(1, 5, paper(0, standard, 0, 0, 0)), 0, 0, number(0)}, {made(1, 5, paper(0, standard, 1, 0, 0)), 0, 0, none()}, {made(1, 5, paper(0, standard, 1, 0, 1)), 1, 1, number(1)}, {made(1, 5, paper(0, standard, 1, 0, 1)), 1, 2, number(0)}, {made(1, 5, paper(0, standard, 1, 0, 0)), 6, 2000, number(1)}, {made(1, 5, paper(0, standard, 1, 0, 0)), 5, 2000, number(0)},
		{old, 3, 9, number(0)}, {old, 3, 8, number(4)}, {old, 3, 7, number(3)}, {old, 3, 6, number(3)}, {old, 3, 5, number(3)}, {old, 3, 3, number(3)}, {old, 3, 2, none()}, {old, 1, 5, number(0)}, {old, 2, 7, number(2)}, {old, 2, 8, number(0)}, {old, 4, 8, number(3)}, {old, 4, 2000, number(1)}, {old, 5, 8, number(3)}, {old, 9, 6, number(3)}, {old, 9, 3, number(3)}, {old, 0, 6, number(0)}, {old, 0, 5, number(2)}, {old, 0, 3, number(2)}, {old, 0, 2, none()},
		// Of several the least number; of two that are the same as well.
		{either, 4, 5, number(0)}, {either, 4, 4, number(1)}, {either, 4, 3, number(2)}, {either, 20, 3, number(2)}, {either, 20, 4, number(1)}, {either, 20, 2, none()}, {made(1, 3, paper(0, standard, 4, 0, 1), paper(0, standard, 4, 0, 1)), 9, 9, number(1)},
		// It can also be renewed in a year before it was written.
		{later, 3, 4, number(1)}, {later, 3, 3, none()}, {later, 10, 8, number(1)}, {later, 10, 9, number(0)}, {later, 0, 2000, number(1)}, {later, 20, 2000, number(1)},
		// A set of fewer comes before one of a lesser number.
		{three, 9, 3, number(7)}, {three, 9, 2, none()}, {three, 9, 9, number(7)}, {three, 2, 3, number(0)}, {three, 2, 2, none()},
		{fewer, 9, 10, number(1)}, {fewer, 9, 9, number(4)}, {fewer, 9, 5, number(3)}, {fewer, 9, 4, number(3)}, {fewer, 9, 2, number(3)}, {fewer, 9, 1, none()}, {made(2, 1, paper(0, standard, 5, 0, 0), paper(1, standard, 5, 0, 0), paper(1, 0, 0, 3, 0), paper(0, standard, 5, 3, 0)), 5, 5, number(3)},
		{made(3, 1, paper(0, 2, 1, 0, 0), paper(1, 2, 1, 0, 0), paper(2, standard, 1, 0, 0), paper(2, standard, 1, 4, 0), paper(0, 2, 1, 4, 0), paper(1, 2, 1, 4, 0)), 5, 2, number(0)},
		{made(3, 1, paper(0, 2, 1, 0, 0), paper(1, 2, 1, 0, 0), paper(2, standard, 1, 0, 0), paper(2, standard, 1, 4, 1), paper(0, 2, 1, 4, 0), paper(1, 2, 1, 4, 0)), 5, 2, number(0)},
		{made(3, 1, paper(0, 2, 1, 0, 0), paper(1, 2, 1, 0, 0), paper(2, standard, 1, 0, 0), paper(2, standard, 1, 3, 1), paper(0, 2, 1, 4, 1), paper(1, 2, 1, 4, 1)), 5, 2, number(7)},
		{made(3, 1, paper(0, 2, 1, 0, 0), paper(1, 2, 1, 0, 0), paper(2, standard, 1, 0, 0), paper(2, standard, 1, 3, 1), paper(0, 2, 1, 4, 1), paper(1, 2, 1, 4, 1)), 5, 4, number(4)},
		// An item can be known by another one that was measured by it, when it was less wrong.
		{round, 0, 3, number(2)}, {round, 2, 3, number(6)}, {round, 1, 4, number(0)}, {round, 4, 4, number(1)}, {round, 4, 3, number(6)}, {round, 4, 2, none()},
		{passP(), 7, 11, number(3)}, {passP(), 7, 6, number(7)}, {passP(), 7, 5, none()}, {passP(), 4, 10, number(0)}, {passP(), 4, 9, number(2)}, {passP(), 4, 8, number(3)}, {passP(), 12, 20, number(7)},
	} {
		same(t, "the table", renew(x.p, x.year, x.limit), x.papers)
		same(t, "Renew", two(pass.Renew(x.p, x.year, x.limit)), x.papers)
		if t.Failed() {
			t.Fatalf("the certificates are %v, renewed in %d for %d", x.p, x.year, x.limit)
		}
	}
}
