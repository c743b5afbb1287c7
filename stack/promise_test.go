package stack_test

import (
	"slices"
	"testing"

	"blockworks/api"
	"blockworks/stack"
)

// cases is how many sets each of these tests goes through.
const cases = 600

// TestModel: P4.1 to P4.7, of many sets.
func TestModel(t *testing.T) {
	c := chance(1)
	made := 0
	for range cases {
		s := c.set(6)
		if c.below(40) == 0 {
			s = c.set(8)
		}
		m := modelOf(s)
		compareStacks(t, &c, s, m)
		for range 5 {
			if compareWant(t, s, m, c.want(s)) {
				made++
			}
			length := c.near(s)
			blocks, off, e := m.nearest(length)
			same(t, "Nearest", three(stack.Nearest(s, length)), three(blocks, off, e))
			compareGap(t, &c, s, m, length)
		}
		if t.Failed() {
			t.Fatalf("the set is %v", s)
		}
	}
	if made < cases || made > cases*4 {
		t.Errorf("%d of %d wants can be made: too many are of one kind", made, cases*5)
	}
}

func compareStacks(t *testing.T, c *chance, s api.Stack, m model) {
	t.Helper()
	for blocks := 1; blocks < len(m); blocks++ {
		is := m.long(blocks)
		same(t, "Long", two(stack.Long(s, blocks)), long(is.Lo, is.Hi))
		for _, want := range []api.Span{c.want(s), is, span(is.Lo-1, is.Hi), span(is.Lo, is.Hi+1), span(is.Lo, is.Lo), span(is.Hi, is.Hi), span(0, is.Lo-1), span(is.Hi+1, api.StackWant)} {
			same(t, "Right", two(stack.Right(s, blocks, want)), number(m.right(blocks, want)))
		}
	}
}

// compareWant returns whether the want can be made.
func compareWant(t *testing.T, s api.Stack, m model, want api.Span) bool {
	t.Helper()
	fewest, e := m.fewest(want)
	same(t, "Fewest", two(stack.Fewest(s, want)), two(fewest, e))
	surely, perhaps := m.count(want)
	same(t, "Count", three(stack.Count(s, want)), numbers(surely, perhaps))
	each, some, e := m.needed(want)
	same(t, "Needed", three(stack.Needed(s, want)), three(each, some, e))
	return e == api.OK
}

func compareGap(t *testing.T, c *chance, s api.Stack, m model, from int) {
	t.Helper()
	to, off := min(from+c.below(api.StackGap+1), api.StackWant), c.below(12)
	length, e := m.gap(from, to, off)
	same(t, "Gap", two(stack.Gap(s, from, to, off)), two(length, e))
}

// some returns a set with at least one block.
func (c *chance) some(most int) api.Stack {
	for {
		if s := c.set(most); len(s.Blocks) > 0 {
			return s
		}
	}
}

// TestTrue: P4.9, P2 and P5. However long blocks and however thick films truly are, a stack that is surely right is as long as is wanted, and the nearest one is off by no more than is told.
func TestTrue(t *testing.T) {
	c := chance(2)
	made := 0
	for range cases {
		s := c.some(8)
		want, length, one := c.want(s), c.near(s), c.stack(s)
		fewest, e := stack.Fewest(s, want)
		nearest, off, f := stack.Nearest(s, length)
		is, g := stack.Long(s, one)
		right, h := stack.Right(s, one, want)
		if f != api.OK || g != api.OK || h != api.OK {
			t.Fatalf("%v: %v, %v, %v", s, f, g, h)
		}
		if e == api.OK {
			made++
		}
		for range 40 {
			truth := c.truth(s)
			if e == api.OK && !inside(truth.long(fewest), want) {
				t.Fatalf("%v: the stack %b is %d long, not %v", s, fewest, truth.long(fewest), want)
			}
			if by := truth.long(nearest) - length; by > off || -by > off {
				t.Fatalf("%v: the stack %b is off %d by %d, and %d is told", s, nearest, length, by, off)
			}
			if !inside(truth.long(one), is) {
				t.Fatalf("%v: the stack %b is %d long, and %v is told", s, one, truth.long(one), is)
			}
			if good := inside(truth.long(one), want); good && right == api.StackNever || !good && right == api.StackAlways {
				t.Fatalf("%v: the stack %b is %d long, and for %v %d is told", s, one, truth.long(one), want, right)
			}
		}
	}
	if made < cases/5 {
		t.Errorf("only %d wants can be made", made)
	}
}

// known returns a set in which all blocks and films are as short, or as long, as they can be.
func known(s api.Stack, end func(api.Span) int) api.Stack {
	at := func(x api.Span) api.Span { return span(end(x), end(x)) }
	exact := api.Stack{Film: at(s.Film)}
	for _, b := range s.Blocks {
		exact.Blocks = append(exact.Blocks, at(b))
	}
	return exact
}

// TestEnds: P4.9. Both ends of a length are those of a truth, and so is by how much a stack is told to be off.
func TestEnds(t *testing.T) {
	c := chance(3)
	for range cases {
		s := c.some(8)
		shortest, longest := known(s, func(x api.Span) int { return x.Lo }), known(s, func(x api.Span) int { return x.Hi })
		one := c.stack(s)
		is, _ := stack.Long(s, one)
		same(t, "Long", two(stack.Long(shortest, one)), long(is.Lo, is.Lo))
		same(t, "Long", two(stack.Long(longest, one)), long(is.Hi, is.Hi))
		length := c.near(s)
		nearest, off, _ := stack.Nearest(s, length)
		lo, _ := stack.Long(shortest, nearest)
		hi, _ := stack.Long(longest, nearest)
		same(t, "off", max(length-lo.Lo, hi.Hi-length), off)
		if t.Failed() {
			t.Fatalf("the set is %v", s)
		}
	}
}

// better returns a set with a block more, or one of which a block, or a film, is known better.
func (c *chance) better(s api.Stack) api.Stack {
	narrow := func(x *api.Span) {
		x.Lo = c.between(x.Lo, x.Hi)
		x.Hi = c.between(x.Lo, x.Hi)
	}
	s.Blocks = slices.Clone(s.Blocks)
	switch kind := c.below(4); {
	case len(s.Blocks) == 0 || kind == 0 && len(s.Blocks) < api.StackBlocks:
		s.Blocks = append(s.Blocks, c.within(1, 40, api.StackWide))
	case kind == 1:
		narrow(&s.Film)
	default:
		narrow(&s.Blocks[c.below(len(s.Blocks))])
	}
	return s
}

// TestMore: P4.9 and P2. With a block more, or known better, no more blocks are needed, and nothing is off by more; what is known better is told no less exactly.
func TestMore(t *testing.T) {
	c := chance(4)
	for range cases * 4 {
		s := c.set(8)
		q := c.better(s)
		want, length := c.want(s), c.near(s)
		before, e := stack.Fewest(s, want)
		after, f := stack.Fewest(q, want)
		if e == api.OK && (f != api.OK || size(after) > size(before)) {
			t.Fatalf("%v for %v: %b; with more, %v: %b, %v", s, want, before, q, after, f)
		}
		_, off, e := stack.Nearest(s, length)
		_, less, f := stack.Nearest(q, length)
		if e == api.OK && (f != api.OK || less > off) {
			t.Fatalf("%v is off %d by %d; with more, %v: %d, %v", s, length, off, q, less, f)
		}
		surely, _, _ := stack.Count(s, want)
		surer, _, _ := stack.Count(q, want)
		if surer < surely {
			t.Fatalf("%v for %v: %d surely right; with more, %v: %d", s, want, surely, q, surer)
		}
		noEarlierGap(t, s, q, length, c.below(12))
		for blocks := 1; blocks < 1<<len(s.Blocks); blocks++ {
			was, _ := stack.Long(s, blocks)
			is, _ := stack.Long(q, blocks)
			if is.Lo < was.Lo || is.Hi > was.Hi {
				t.Fatalf("%v: the stack %b is %v long; with more, %v: %v", s, blocks, was, q, is)
			}
		}
	}
}

func noEarlierGap(t *testing.T, s, q api.Stack, from, off int) {
	t.Helper()
	to := min(from+api.StackGap, api.StackWant)
	before, e := stack.Gap(s, from, to, off)
	after, f := stack.Gap(q, from, to, off)
	if f == api.OK && (e != api.OK || after < before) {
		t.Fatalf("%v: off %d, the gap %d, %v; with more, %v: %d, %v", s, off, before, e, q, after, f)
	}
}

// TestWider: P4.9. A wider want is surely met by no fewer stacks, nor by one of more blocks.
func TestWider(t *testing.T) {
	c := chance(5)
	for range cases * 4 {
		s := c.set(8)
		want := c.want(s)
		wider := span(max(0, want.Lo-c.below(6)), min(api.StackWant, want.Hi+c.below(6)))
		surely, perhaps, _ := stack.Count(s, want)
		surer, more, _ := stack.Count(s, wider)
		if surer < surely || more < perhaps {
			t.Fatalf("%v: %d, %d for %v, and %d, %d for %v", s, surely, perhaps, want, surer, more, wider)
		}
		before, e := stack.Fewest(s, want)
		after, f := stack.Fewest(s, wider)
		if e == api.OK && (f != api.OK || size(after) > size(before)) {
			t.Fatalf("%v: %b for %v, and %b, %v for %v", s, before, want, after, f, wider)
		}
		each, some, e := stack.Needed(s, want)
		fewer, others, _ := stack.Needed(s, wider)
		if e == api.OK && (fewer&^each != 0 || some&^others != 0) {
			t.Fatalf("%v: %b, %b for %v, and %b, %b for %v", s, each, some, want, fewer, others, wider)
		}
	}
}

// order returns the first so many numbers, in any order.
func (c *chance) order(many int) []int {
	var list []int
	for n := range many {
		list = slices.Insert(list, c.between(0, n), n)
	}
	return list
}

// moved returns a set of blocks by their other numbers.
func moved(set int, to []int) int {
	result := 0
	for i, n := range to {
		result |= set >> i & 1 << n
	}
	return result
}

// TestNumbers: P4.9 and P11. If blocks are numbered otherwise as few are needed, as many stacks are right, and each stack is as long.
func TestNumbers(t *testing.T) {
	c := chance(6)
	for range cases {
		s := c.set(8)
		to := c.order(len(s.Blocks))
		q := api.Stack{Film: s.Film, Blocks: make([]api.Span, len(s.Blocks))}
		for i, b := range s.Blocks {
			q.Blocks[to[i]] = b
		}
		want, length := c.want(s), c.near(s)
		a, e := stack.Fewest(s, want)
		b, f := stack.Fewest(q, want)
		same(t, "Fewest", two(size(b), f), two(size(a), e))
		same(t, "Count", three(stack.Count(q, want)), three(stack.Count(s, want)))
		each, some, e := stack.Needed(s, want)
		same(t, "Needed", three(stack.Needed(q, want)), three(moved(each, to), moved(some, to), e))
		a, off, e := stack.Nearest(s, length)
		b, by, f := stack.Nearest(q, length)
		same(t, "Nearest", three(size(b), by, f), three(size(a), off, e))
		end, off := min(length+api.StackGap, api.StackWant), c.below(12)
		same(t, "Gap", two(stack.Gap(q, length, end, off)), two(stack.Gap(s, length, end, off)))
		for blocks := 1; blocks < 1<<len(s.Blocks); blocks++ {
			same(t, "Long", two(stack.Long(q, moved(blocks, to))), two(stack.Long(s, blocks)))
			same(t, "Right", two(stack.Right(q, moved(blocks, to), want)), two(stack.Right(s, blocks, want)))
		}
		if t.Failed() {
			t.Fatalf("the sets are %v and %v, for %v and %d", s, q, want, length)
		}
	}
}

// TestOneAnother: P5. What is told of all stacks together is what Right and Long tell of each of them.
func TestOneAnother(t *testing.T) {
	c := chance(7)
	for range cases {
		s := c.set(8)
		want := c.want(s)
		surely, perhaps, best := 0, 0, 0
		each, some := 1<<len(s.Blocks)-1, 0
		for blocks := 1; blocks < 1<<len(s.Blocks); blocks++ {
			right, _ := stack.Right(s, blocks, want)
			if right != api.StackNever {
				perhaps++
			}
			if right == api.StackAlways {
				surely++
				each, some = each&blocks, some|blocks
				if best == 0 || size(blocks) < size(best) {
					best = blocks
				}
			}
		}
		same(t, "Count", three(stack.Count(s, want)), numbers(surely, perhaps))
		if best == 0 {
			same(t, "Fewest", two(stack.Fewest(s, want)), none())
			same(t, "Needed", three(stack.Needed(s, want)), nones())
		} else {
			same(t, "Fewest", two(stack.Fewest(s, want)), number(best))
			same(t, "Needed", three(stack.Needed(s, want)), numbers(each, some))
		}
		if t.Failed() {
			t.Fatalf("the set is %v, for %v", s, want)
		}
	}
}

// TestGaps: P4.7 and P4.6. Before a gap the nearest stack is off by no more than off; at it, it is.
func TestGaps(t *testing.T) {
	c := chance(8)
	gaps := 0
	for range cases {
		s := c.some(8)
		from, off := c.near(s), c.below(12)
		to := min(from+c.below(api.StackGap+1), api.StackWant)
		gap, e := stack.Gap(s, from, to, off)
		last := to
		if e == api.OK {
			gaps++
			_, by, _ := stack.Nearest(s, gap)
			if by <= off || !inside(gap, span(from, to)) {
				t.Fatalf("%v: the gap %d of %d..%d is off by %d", s, gap, from, to, by)
			}
			last = gap - 1
		}
		for length := from; length <= last; length++ {
			if _, by, _ := stack.Nearest(s, length); by > off {
				t.Fatalf("%v: before the gap %d, %v, of %d..%d, %d is off by %d", s, gap, e, from, to, length, by)
			}
		}
	}
	if gaps < cases/5 || gaps > cases*9/10 {
		t.Errorf("%d of %d ranges have a gap: too many are of one kind", gaps, cases)
	}
}

// TestReplay: P11. The same call returns the same, however often it is made.
func TestReplay(t *testing.T) {
	c := chance(9)
	for range cases {
		s := c.some(8)
		length := c.near(s)
		for _, call := range calls(with{c.stack(s), c.want(s), length, length, min(length+api.StackGap, api.StackWant), c.below(12)}) {
			first := call.do(s)
			for range 3 {
				same(t, call.name, call.do(s), first)
			}
		}
	}
}
