package colour_test

import (
	"reflect"
	"testing"

	"blockworks/api"
	"blockworks/colour"
)

// colourC is the colour of the chapter's examples.
func colourC() api.Colour { return made(ints(12, 20, 17), ints(5, 9, 4), 100, 130, 5, 1) }

// same fails unless what a call returned is what is wanted.
func same(t *testing.T, call string, got, want any) {
	t.Helper()
	if !reflect.DeepEqual(got, want) {
		t.Errorf("%s: got %v, want %v", call, got, want)
	}
}

// two puts the results of a call into one value, and so does three.
func two[A any](a A, e api.Errno) [2]any { return [2]any{a, e} }
func three(a, b int, e api.Errno) [3]any { return [3]any{a, b, e} }
func number(n int) [2]any                { return two(n, api.OK) }
func yes() [2]any                        { return two(true, api.OK) }
func no() [2]any                         { return two(false, api.OK) }
func refused() [2]any                    { return two(0, api.ErrRefuse) }
func both(a, b int) [3]any               { return three(a, b, api.OK) }
func noTwo() [3]any                      { return three(0, 0, api.ErrNone) }

func TestExamples(t *testing.T) {
	c := colourC()
	same(t, "Apart 0, 100 and 125", two(colour.Apart(c, 0, 100, 125)), number(2))
	same(t, "Apart 0, 105 and 130", two(colour.Apart(c, 0, 105, 130)), number(1))
	same(t, "Apart 2, 100 and 120", two(colour.Apart(c, 2, 100, 120)), number(4))
	same(t, "Parts 0, 100 and 125", two(colour.Parts(c, 1, 100, 125)), no())
	same(t, "Parts 0 1, 100 and 125", two(colour.Parts(c, 3, 100, 125)), yes())
	same(t, "Parts none, 100 and 105", two(colour.Parts(c, 0, 100, 105)), no())
	same(t, "Alike 0", three(colour.Alike(c, 1)), both(100, 125))
	same(t, "Alike 1", three(colour.Alike(c, 2)), both(100, 120))
	same(t, "Alike 0 1", three(colour.Alike(c, 3)), noTwo())
	same(t, "Pairs 0", three(colour.Pairs(c, 1)), both(2, 2))
	same(t, "Pairs 1", three(colour.Pairs(c, 2)), both(3, 2))
	same(t, "Pairs none", three(colour.Pairs(c, 0)), both(21, 7))
	same(t, "Pairs 0 1", three(colour.Pairs(c, 3)), both(0, 1))
	same(t, "Reach 0", two(colour.Reach(c, 1)), number(120))
	same(t, "Reach 1", two(colour.Reach(c, 2)), number(115))
	same(t, "Reach 0 1", two(colour.Reach(c, 3)), number(130))
	same(t, "Reach none", two(colour.Reach(c, 0)), number(100))
	same(t, "Fewest", three(colour.Fewest(c)), both(2, 3))
	same(t, "Cheapest", three(colour.Cheapest(c)), both(9, 5))
	same(t, "Spare all", two(colour.Spare(c, 7)), number(7))
	same(t, "Spare 0 1", two(colour.Spare(c, 3)), number(0))
	same(t, "Spare 0", two(colour.Spare(c, 1)), refused())
	same(t, "Next 0", three(colour.Next(c, 1)), both(1, 0))
	same(t, "Next none", three(colour.Next(c, 0)), both(0, 2))
	same(t, "Next all", three(colour.Next(c, 7)), noTwo())
}

// TestApart: P11.1. It goes round, the shorter way; any two lengths can be asked for, also the same one twice, and Length, Every, Error and Prices make no difference.
func TestApart(t *testing.T) {
	for _, x := range []struct{ wave, a, b, apart int }{
		// In the wave 20 the part is what is left of the length.
		{20, 0, 0, 0}, {20, 0, 1, 1}, {20, 0, 9, 9}, {20, 0, 10, 10}, {20, 0, 11, 9}, {20, 0, 19, 1}, {20, 0, 20, 0}, {20, 5, 15, 10}, {20, 4, 15, 9}, {20, 6, 15, 9}, {20, 19, 1, 2}, {20, 1, 19, 2}, {20, 19, 20, 1}, {20, 2000, 0, 0}, {20, 1999, 0, 1}, {20, 1999, 1991, 8}, {20, 2000, 1989, 9},
		// In the wave 2 there are two parts, in the wave 3 the parts 0, 6 and 13.
		{2, 0, 1, 10}, {2, 1, 0, 10}, {2, 7, 1999, 0}, {2, 1, 2000, 10}, {3, 0, 1, 6}, {3, 0, 2, 7}, {3, 1, 2, 7}, {3, 2, 3, 7}, {3, 5, 2000, 0}, {3, 4, 2, 7},
		// In the wave 7 the parts are 0, 2, 5, 8, 11, 14 and 17, and in the wave 60 three lengths leave the same one.
		{7, 0, 6, 3}, {7, 0, 3, 8}, {7, 0, 4, 9}, {7, 1, 6, 5}, {7, 2, 5, 9}, {7, 2, 6, 8}, {7, 1, 4, 9}, {7, 1, 5, 8}, {60, 0, 2, 0}, {60, 2, 3, 1}, {60, 57, 59, 0}, {60, 59, 60, 1}, {60, 56, 60, 2}, {60, 0, 30, 10}, {60, 0, 29, 9}, {60, 0, 32, 10}, {60, 0, 33, 9}, {60, 5, 35, 10},
	} {
		for _, wrong := range []int{0, 4} {
			c := made(ints(20, x.wave, 2), ints(0, 50, 1), 700, 700+50*wrong, 20-wrong, wrong)
			same(t, "the table", apart(c, 1, x.a, x.b), x.apart)
			same(t, "Apart", two(colour.Apart(c, 1, x.a, x.b)), number(x.apart))
			same(t, "Apart, the other way round", two(colour.Apart(c, 1, x.b, x.a)), number(x.apart))
			same(t, "Apart in the first colour", two(colour.Apart(c, 0, x.a, x.b)), number(apart(c, 0, x.a, x.b)))
			same(t, "Apart in the last colour", two(colour.Apart(c, 2, x.a, x.b)), number((x.a+x.b)%2*10))
		}
		if t.Failed() {
			t.Fatalf("the wave is %d, and the lengths are %d and %d", x.wave, x.a, x.b)
		}
	}
}

// TestManyColours: P11.1. There can be more colours than a fringe of layer 1 may have, and each one counts.
func TestManyColours(t *testing.T) {
	c := made(ints(2, 20, 40, 60, 10, 30), ints(0, 0, 0, 0, 0, 0), 0, 100, 1, 0)
	for n, want := range []int{10, 9, 4, 3, 2, 6} {
		same(t, "Apart", two(colour.Apart(c, n, 0, 9)), number(want))
		same(t, "Parts", two(colour.Parts(c, 1<<n, 0, 9)), yes())
	}
	for set := range 64 {
		same(t, "Parts", two(colour.Parts(c, set, 0, 40)), two(set&(8|32) != 0, api.OK))
	}
}

// TestParts: P11.2. Twice Error is not enough; one colour that parts is, and no colour parts none.
func TestParts(t *testing.T) {
	for wrong := range api.ColourError + 1 {
		c := made(ints(20), ints(1), 0, 0, 1, wrong)
		for b := range 60 {
			far := b%20 > 2*wrong && b%20 < 20-2*wrong
			same(t, "Parts", two(colour.Parts(c, 1, 0, b)), two(far, api.OK))
			same(t, "Parts", two(colour.Parts(c, 1, 1940+b, 1940)), two(far, api.OK))
			same(t, "Parts by none", two(colour.Parts(c, 0, 0, b)), no())
		}
	}
	// The lengths 3 and 43 are 0 apart in 20, 0 in 40, 7 in 60 (the parts 1 and 14), and 10 in 16 (the parts 3 and 13).
	for wrong, sets := range []int{12, 12, 12, 12, 8} {
		c := made(ints(20, 40, 60, 16), ints(1, 1, 1, 1), 0, 0, 1, wrong)
		for set := range 16 {
			same(t, "Parts", two(colour.Parts(c, set, 3, 43)), two(set&sets != 0, api.OK))
		}
	}
}

// looked is what is told of a set of colours: the first two lengths that it does not part (or none), how many pairs, the worst, and how far it reaches.
type looked struct {
	c     api.Colour
	set   int
	alike [3]any
	pairs [3]any
	reach int
}

// TestLooked: P11.3 to P11.5. One length alone is parted by all sets; lengths go from Lo on by Every, and the last one need not be Hi.
func TestLooked(t *testing.T) {
	ones := ints(1, 1)
	for _, x := range []looked{
		{made(ints(20, 2), ones, 7, 7, 1, 4), 0, noTwo(), both(0, 1), 7},
		{made(ints(20, 2), ones, 7, 7, 1, 4), 3, noTwo(), both(0, 1), 7},
		{made(ints(20, 2), ones, 7, 26, 20, 0), 0, noTwo(), both(0, 1), 7},
		{made(ints(20, 2), ones, 7, 27, 20, 0), 0, both(7, 27), both(1, 2), 7},
		{made(ints(20, 2), ones, 7, 27, 20, 0), 3, both(7, 27), both(1, 2), 7},
		{made(ints(20, 2), ones, 0, 19, 1, 0), 1, noTwo(), both(0, 1), 19},
		{made(ints(20, 2), ones, 0, 20, 1, 0), 1, both(0, 20), both(1, 2), 19},
		{made(ints(20, 2), ones, 5, 44, 1, 0), 1, both(5, 25), both(20, 2), 24},
		{made(ints(20, 2), ones, 5, 45, 1, 0), 1, both(5, 25), both(22, 3), 24},
		{made(ints(20, 2), ones, 1800, 2000, 1, 0), 0, both(1800, 1801), both(20100, 201), 1800},
		{made(ints(20, 2), ones, 1800, 2000, 1, 0), 1, both(1800, 1820), both(910, 11), 1819},
		// Any two of three lengths that go on by 3 are parted if readings can be wrong by 1, the first and the last one going round.
		{made(ints(20, 2), ones, 0, 19, 3, 1), 1, both(0, 18), both(1, 2), 15},
		{made(ints(20, 2), ones, 0, 17, 3, 1), 1, noTwo(), both(0, 1), 15},
		{made(ints(20, 2), ones, 0, 19, 2, 1), 1, both(0, 2), both(10, 3), 0},
		{made(ints(20, 2), ones, 0, 19, 2, 1), 3, both(0, 2), both(10, 3), 0},
		// The least lesser length comes first, though a pair of others is nearer, and the reach ends by those others.
		{made(ints(20, 2), ones, 0, 16, 4, 2), 1, both(0, 4), both(5, 3), 0},
		{made(ints(60, 2), ones, 1, 7, 1, 0), 1, both(1, 2), both(5, 3), 1},
		{made(ints(60, 2), ones, 2, 7, 1, 0), 1, both(3, 4), both(4, 3), 3},
		{made(ints(60, 2), ones, 2, 7, 1, 0), 2, both(2, 4), both(6, 3), 3},
		{made(ints(60, 2), ones, 2, 7, 1, 0), 3, both(3, 5), both(1, 2), 4},
	} {
		m := modelOf(x.c)
		same(t, "the table", [3]any{m.firstAlike(x.set), m.pairs(x.set), m.reach(x.set)}, [3]any{x.alike, x.pairs, x.reach})
		same(t, "Alike", three(colour.Alike(x.c, x.set)), x.alike)
		same(t, "Pairs", three(colour.Pairs(x.c, x.set)), x.pairs)
		same(t, "Reach", two(colour.Reach(x.c, x.set)), number(x.reach))
		if t.Failed() {
			t.Fatalf("the colour is %v, and the set %b", x.c, x.set)
		}
	}
}

// six is a colour of which two colours together part the lengths 0 to 5, or one alone.
func six(prices ...int) api.Colour { return made(ints(2, 3, 20), prices, 0, 5, 1, 0) }

// TestBought: P11.6. Of sets that cost the same the least number is meant, though it may have more colours; a colour can cost nothing.
func TestBought(t *testing.T) {
	for _, x := range []struct {
		c                api.Colour
		fewest, cheapest [3]any
	}{
		{made(ints(2), ints(50), 9, 9, 1, 4), both(0, 0), both(0, 0)},
		{made(ints(2), ints(0), 9, 9, 1, 4), both(0, 0), both(0, 0)},
		{made(ints(20), ints(50), 0, 19, 1, 0), both(1, 1), both(50, 1)},
		{made(ints(20), ints(50), 0, 20, 1, 0), noTwo(), noTwo()},
		{made(ints(20, 20, 10), ints(0, 0, 0), 0, 20, 1, 0), noTwo(), noTwo()},
		{made(ints(2, 2), ints(1, 1), 0, 1, 1, 4), both(1, 1), both(1, 1)},
		{made(ints(3, 3), ints(1, 1), 0, 1, 1, 3), noTwo(), noTwo()},
		{made(ints(20, 20, 3), ints(4, 4, 0), 0, 19, 1, 0), both(1, 1), both(4, 1)},
		{made(ints(20, 20, 3), ints(5, 4, 0), 0, 19, 1, 0), both(1, 1), both(4, 2)},
		{made(ints(3, 20, 20), ints(0, 0, 0), 0, 19, 1, 0), both(1, 2), both(0, 2)},
		{made(ints(3, 20, 20), ints(0, 4, 4), 0, 19, 1, 0), both(1, 2), both(4, 2)},
		{six(3, 4, 7), both(1, 4), both(7, 3)},
		{six(3, 5, 7), both(1, 4), both(7, 4)},
		{six(3, 3, 7), both(1, 4), both(6, 3)},
		{six(0, 0, 0), both(1, 4), both(0, 3)},
		{six(0, 0, 1), both(1, 4), both(0, 3)},
		{six(50, 50, 50), both(1, 4), both(50, 4)},
		// Of six colours the two that are needed are the last ones, and then they are any two.
		{made(ints(2, 2, 2, 2, 20, 60), ints(1, 1, 1, 1, 50, 50), 0, 39, 1, 0), both(2, 48), both(100, 48)},
		{made(ints(3, 2, 3, 2, 3, 2), ints(9, 3, 8, 4, 8, 2), 0, 5, 1, 0), both(2, 3), both(10, 36)},
		{made(ints(2, 2, 2, 3, 3, 3), ints(9, 3, 3, 8, 4, 4), 0, 5, 1, 0), both(2, 9), both(7, 18)},
		// All six are needed, or are not enough.
		{made(ints(25, 54, 40, 26, 30, 3), ints(17, 16, 36, 40, 41, 27), 1222, 1286, 8, 3), both(6, 63), both(177, 63)},
		{made(ints(25, 54, 40, 26, 30, 3), ints(17, 16, 36, 40, 41, 27), 1222, 1286, 8, 4), noTwo(), noTwo()},
	} {
		m := modelOf(x.c)
		same(t, "the table", [2]any{m.fewest(), m.cheapest()}, [2]any{x.fewest, x.cheapest})
		same(t, "Fewest", three(colour.Fewest(x.c)), x.fewest)
		same(t, "Cheapest", three(colour.Cheapest(x.c)), x.cheapest)
		if t.Failed() {
			t.Fatalf("the colour is %v", x.c)
		}
	}
}

// TestSpareAndNext: P11.7 and P11.8, of all sets from none on.
func TestSpareAndNext(t *testing.T) {
	for _, x := range []struct {
		c     api.Colour
		spare [][2]any
		next  [][3]any
	}{
		{made(ints(2), ints(1), 9, 9, 1, 0), [][2]any{number(0), number(1)}, [][3]any{both(0, 0), noTwo()}},
		{made(ints(20), ints(1), 0, 20, 1, 0), [][2]any{refused(), refused()}, [][3]any{both(0, 1), noTwo()}},
		{made(ints(20, 20), ints(1, 1), 0, 19, 1, 0), [][2]any{refused(), number(0), number(0), number(3)}, [][3]any{both(0, 0), both(1, 0), both(0, 0), noTwo()}},
		{made(ints(2, 20), ints(1, 1), 0, 19, 1, 0), [][2]any{refused(), refused(), number(0), number(1)}, [][3]any{both(1, 0), both(1, 0), both(0, 0), noTwo()}},
		{six(1, 1, 1), [][2]any{refused(), refused(), refused(), number(0), number(0), number(1), number(2), number(7)}, [][3]any{both(2, 0), both(1, 0), both(0, 0), both(2, 0), both(0, 0), both(1, 0), both(0, 0), noTwo()}},
		{made(ints(2, 2, 3), ints(9, 1, 9), 0, 5, 1, 0), [][2]any{refused(), refused(), refused(), refused(), refused(), number(0), number(0), number(3)}, [][3]any{both(2, 3), both(2, 0), both(2, 0), both(2, 0), both(0, 0), both(1, 0), both(0, 0), noTwo()}},
	} {
		m := modelOf(x.c)
		for set := range m.all() + 1 {
			same(t, "the table", [2]any{m.spare(set), m.next(set)}, [2]any{x.spare[set], x.next[set]})
			same(t, "Spare", two(colour.Spare(x.c, set)), x.spare[set])
			same(t, "Next", three(colour.Next(x.c, set)), x.next[set])
			if t.Failed() {
				t.Fatalf("the colour is %v, and the set %b", x.c, set)
			}
		}
	}
}
