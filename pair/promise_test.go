package pair_test

import (
	"slices"
	"testing"

	"blockworks/api"
	"blockworks/pair"
)

// cases is how many pairs each of these tests goes through.
const cases = 1000

// TestModel: P3.1 to P3.8, of many pairs.
func TestModel(t *testing.T) {
	c := chance(1)
	truthful := 0
	for range cases {
		p, _ := c.pair(true, false)
		m := modelOf(p)
		if m.truthful {
			truthful++
		}
		compareSpans(t, p, m)
		compareBlocks(t, p, m)
		compareReads(t, p, m)
		if t.Failed() {
			t.Fatalf("the pair is %v", p)
		}
	}
	if truthful < cases/4 || truthful > cases*3/4 {
		t.Errorf("%d of %d pairs have a truth: too many are of one kind", truthful, cases)
	}
}

func (m model) clashError() api.Errno {
	if m.truthful {
		return api.OK
	}
	return api.ErrClash
}

func compareSpans(t *testing.T, p api.Pair, m model) {
	t.Helper()
	e := m.clashError()
	for a := range p.Blocks {
		same(t, "Known", two(pair.Known(p, a)), two(m.known[a], e))
		for b := range p.Blocks {
			same(t, "Differ", two(pair.Differ(p, a, b)), two(m.differ[a][b], e))
		}
	}
	for minute, s := range m.shows {
		same(t, "Shows", two(pair.Shows(p, minute)), two(s, e))
	}
}

func compareBlocks(t *testing.T, p api.Pair, m model) {
	t.Helper()
	surely, perhaps := 0, 0
	if m.truthful {
		surely, perhaps = m.surely, m.perhaps
	}
	same(t, "Longest", three(pair.Longest(p)), three(surely, perhaps, m.clashError()))
	least := four(0, 0, 0, m.clashError())
	switch {
	case m.truthful && len(p.Blocks) == 1:
		least = four(0, 0, 0, api.ErrNone)
	case m.truthful:
		a, b, wide := m.least(len(p.Blocks))
		least = four(a, b, wide, api.OK)
	}
	same(t, "Least", four(pair.Least(p)), least)
	same(t, "Groups", two(pair.Groups(p)), two(modelGroups(p), api.OK))
}

func compareReads(t *testing.T, p api.Pair, m model) {
	t.Helper()
	wrong := m.wrong(len(p.Reads))
	same(t, "Wrong", three(pair.Wrong(p)), three(count(wrong), wrong, api.OK))
	clash := two(0, api.ErrNone)
	if !m.truthful {
		clash = two(m.clash(len(p.Reads)), api.OK)
	}
	same(t, "Clash", two(pair.Clash(p)), clash)
}

// TestTrue: P3.9 and P2. If all readings are right, what is told contains what is true.
func TestTrue(t *testing.T) {
	c := chance(2)
	for range cases {
		p, is := c.pair(false, true)
		for a := range p.Blocks {
			told(t, p, is.deviations[a])(pair.Known(p, a))
			for b := range p.Blocks {
				told(t, p, is.deviations[a]-is.deviations[b])(pair.Differ(p, a, b))
			}
		}
		for minute := range api.PairMinutes + 1 {
			told(t, p, is.shows(minute))(pair.Shows(p, minute))
		}
		longest := is.longest(len(p.Blocks))
		surely, perhaps, e := pair.Longest(p)
		if surely&^longest != 0 || longest&^perhaps != 0 || e != api.OK {
			t.Fatalf("%v: the blocks %b are longest, and it is told: %b, %b, %v", p, longest, surely, perhaps, e)
		}
		same(t, "Wrong", three(pair.Wrong(p)), three(0, 0, api.OK))
		same(t, "Clash", two(pair.Clash(p)), two(0, api.ErrNone))
	}
}

func told(t *testing.T, p api.Pair, is int) func(api.Span, api.Errno) {
	t.Helper()
	return func(s api.Span, e api.Errno) {
		t.Helper()
		if e != api.OK || !inside(is, s) {
			t.Fatalf("%v: %d is true, and not told: %v, %v", p, is, s, e)
		}
	}
}

func truthful(p api.Pair) bool {
	_, e := pair.Known(p, 0)
	return e == api.OK
}

// withBlock returns a pair with another span of a block.
func withBlock(p api.Pair, block, lo, hi int) api.Pair {
	p.Blocks = slices.Clone(p.Blocks)
	p.Blocks[block] = span(lo, hi)
	return p
}

// TestEnds: P3.9. Both ends of each span are those of a truth: with the end alone there still is one.
func TestEnds(t *testing.T) {
	c := chance(3)
	compared := 0
	for range cases {
		p, _ := c.pair(true, true)
		if !truthful(p) {
			continue
		}
		compared++
		for a := range p.Blocks {
			known, _ := pair.Known(p, a)
			if !truthful(withBlock(p, a, known.Lo, known.Lo)) || !truthful(withBlock(p, a, known.Hi, known.Hi)) {
				t.Fatalf("%v: the block %d has not both ends of %v", p, a, known)
			}
			b := c.below(len(p.Blocks))
			differ, _ := pair.Differ(p, a, b)
			if !canDiffer(p, a, b, differ.Lo) || !canDiffer(p, a, b, differ.Hi) {
				t.Fatalf("%v: the blocks %d and %d differ not by both ends of %v", p, a, b, differ)
			}
		}
		minute := c.between(0, 60)
		shows, _ := pair.Shows(p, minute)
		if !canShow(p, minute, shows.Lo) || !canShow(p, minute, shows.Hi) {
			t.Fatalf("%v: at %d it shows not both ends of %v", p, minute, shows)
		}
	}
	if compared < cases/4 {
		t.Errorf("only %d pairs were compared", compared)
	}
}

func canDiffer(p api.Pair, a, b, by int) bool {
	if a == b {
		return by == 0
	}
	for n := p.Blocks[a].Lo; n <= p.Blocks[a].Hi; n++ {
		if inside(n-by, p.Blocks[b]) && truthful(withBlock(withBlock(p, a, n, n), b, n-by, n-by)) {
			return true
		}
	}
	return false
}

func canShow(p api.Pair, minute, number int) bool {
	for zero := p.Zero.Lo; zero <= p.Zero.Hi; zero++ {
		for rate := p.Rate.Lo; rate <= p.Rate.Hi; rate++ {
			alone := p
			alone.Zero, alone.Rate = span(zero, zero), span(rate, rate)
			if (truth{zero: zero, rate: rate}).shows(minute) == number && truthful(alone) {
				return true
			}
		}
	}
	return false
}

// negative returns the numbers of a span with the other sign.
func negative(s api.Span) api.Span { return span(-s.Hi, -s.Lo) }

// TestSign: P3.9. By how much a is longer than b, and b than a, differ in sign alone; a block differs from itself by 0.
func TestSign(t *testing.T) {
	c := chance(4)
	for range cases {
		p, _ := c.pair(true, true)
		if !truthful(p) {
			continue
		}
		for a := range p.Blocks {
			same(t, "Differ from itself", two(pair.Differ(p, a, a)), two(span(0, 0), api.OK))
			for b := range p.Blocks {
				differ, e := pair.Differ(p, a, b)
				same(t, "Differ", two(pair.Differ(p, b, a)), two(negative(differ), e))
			}
		}
		if t.Failed() {
			t.Fatalf("the pair is %v", p)
		}
	}
}

// more returns a pair with a reading more.
func more(p api.Pair, r api.PairRead) api.Pair {
	p.Reads = append(slices.Clone(p.Reads), r)
	return p
}

// narrow returns a pair that says no less than another one, with a reading more, or a narrower one, and how many readings more these are; false if it has no room for any.
func (c *chance) narrow(p api.Pair, is truth) (narrower api.Pair, added int, can bool) {
	if len(p.Blocks) == 1 {
		return p, 0, false
	}
	if len(p.Reads) == 0 || len(p.Reads) < api.PairReads && c.below(2) == 0 {
		return more(p, c.reading(len(p.Blocks), is, c.below(3) == 0)), 1, true
	}
	p.Reads = slices.Clone(p.Reads)
	s := &p.Reads[c.below(len(p.Reads))].Diff
	s.Lo = c.between(s.Lo, s.Hi)
	s.Hi = c.between(s.Lo, s.Hi)
	return p, 0, true
}

// TestMore: P3.10 and P2. With a reading more, or a narrower one, nothing is told less exactly.
func TestMore(t *testing.T) {
	c := chance(5)
	compared := 0
	for range cases {
		p, is := c.pair(true, true)
		narrower, added, can := c.narrow(p, is)
		if !can {
			continue
		}
		few, _, _ := pair.Wrong(p)
		many, _, _ := pair.Wrong(narrower)
		groups, _ := pair.Groups(p)
		left, _ := pair.Groups(narrower)
		if many < few || added == 1 && many > few+1 || left > groups {
			t.Fatalf("%v: %d wrong, %d groups; %v: %d wrong, %d groups", p, few, groups, narrower, many, left)
		}
		if !truthful(p) && truthful(narrower) {
			t.Fatalf("%v has no truth, and %v has one", p, narrower)
		}
		if truthful(narrower) {
			compared++
			noLess(t, p, narrower)
		}
	}
	if compared < cases/4 {
		t.Errorf("only %d pairs were compared", compared)
	}
}

// noLess fails if anything is told less exactly of the narrower pair.
func noLess(t *testing.T, p, narrower api.Pair) {
	t.Helper()
	noWider := func(call string, tell func(p api.Pair) (api.Span, api.Errno)) {
		t.Helper()
		a, _ := tell(p)
		b, _ := tell(narrower)
		if b.Lo < a.Lo || b.Hi > a.Hi {
			t.Fatalf("%s of %v: %v, of %v: %v", call, p, a, narrower, b)
		}
	}
	for a := range p.Blocks {
		noWider("Known", func(p api.Pair) (api.Span, api.Errno) { return pair.Known(p, a) })
		for b := range p.Blocks {
			noWider("Differ", func(p api.Pair) (api.Span, api.Errno) { return pair.Differ(p, a, b) })
		}
	}
	for minute := range api.PairMinutes + 1 {
		noWider("Shows", func(p api.Pair) (api.Span, api.Errno) { return pair.Shows(p, minute) })
	}
	surely, perhaps, _ := pair.Longest(p)
	surer, fewer, _ := pair.Longest(narrower)
	_, _, wide, _ := pair.Least(p)
	_, _, less, _ := pair.Least(narrower)
	if surely&^surer != 0 || fewer&^perhaps != 0 || less > wide {
		t.Fatalf("%v: longest %b, %b, wide %d; %v: longest %b, %b, wide %d", p, surely, perhaps, wide, narrower, surer, fewer, less)
	}
}

// answers are all that is told of a pair by which the order of readings and the numbers of blocks make no difference.
func answers(p api.Pair) []any {
	var list []any
	for minute := range api.PairMinutes + 1 {
		list = append(list, two(pair.Shows(p, minute)))
	}
	_, _, wide, e := pair.Least(p)
	many, _, f := pair.Wrong(p)
	clash, g := pair.Clash(p)
	return append(list, two(wide, e), two(many, f), two(count(clash), g), two(pair.Groups(p)))
}

// sameOfBlocks fails unless the same is told of the blocks of two pairs; the block n of the one is the block to[n] of the other one.
func sameOfBlocks(t *testing.T, p, q api.Pair, to []int) {
	t.Helper()
	for a := range p.Blocks {
		same(t, "Known", two(pair.Known(q, to[a])), two(pair.Known(p, a)))
		for b := range p.Blocks {
			same(t, "Differ", two(pair.Differ(q, to[a], to[b])), two(pair.Differ(p, a, b)))
		}
	}
	surely, perhaps, e := pair.Longest(p)
	same(t, "Longest", three(pair.Longest(q)), three(moved(surely, to), moved(perhaps, to), e))
}

// moved returns a set of blocks by their other numbers.
func moved(set int, to []int) int {
	result := 0
	for i, n := range to {
		result |= set >> i & 1 << n
	}
	return result
}

// order returns the first so many numbers, in any order.
func (c *chance) order(many int) []int {
	var list []int
	for n := range many {
		list = slices.Insert(list, c.between(0, n), n)
	}
	return list
}

// TestOrder: P3.10, P4 and P11. The order of readings changes their numbers alone.
func TestOrder(t *testing.T) {
	c := chance(6)
	for range cases {
		p, _ := c.pair(true, true)
		q := p
		q.Reads = nil
		for _, i := range c.order(len(p.Reads)) {
			q.Reads = append(q.Reads, p.Reads[i])
		}
		same(t, "answers", answers(q), answers(p))
		sameOfBlocks(t, p, q, []int{0, 1, 2, 3, 4}[:len(p.Blocks)])
		same(t, "Least", four(pair.Least(q)), four(pair.Least(p)))
		if t.Failed() {
			t.Fatalf("the pairs are %v and %v", p, q)
		}
	}
}

// TestNumbers: P3.10 and P11. If blocks are numbered otherwise only their numbers change.
func TestNumbers(t *testing.T) {
	c := chance(7)
	for range cases {
		p, _ := c.pair(true, true)
		to := c.order(len(p.Blocks))
		q := p
		q.Blocks = make([]api.Span, len(p.Blocks))
		for i, s := range p.Blocks {
			q.Blocks[to[i]] = s
		}
		q.Reads = slices.Clone(p.Reads)
		for i, r := range p.Reads {
			q.Reads[i].A, q.Reads[i].B = to[r.A], to[r.B]
		}
		same(t, "answers", answers(q), answers(p))
		sameOfBlocks(t, p, q, to)
		same(t, "Wrong", three(pair.Wrong(q)), three(pair.Wrong(p)))
		same(t, "Clash", two(pair.Clash(q)), two(pair.Clash(p)))
		if t.Failed() {
			t.Fatalf("the pairs are %v and %v", p, q)
		}
	}
}

// sameButKnown fails unless all but what Known and Differ return is the same of two pairs, with the same numbers.
func sameButKnown(t *testing.T, p, q api.Pair) {
	t.Helper()
	same(t, "answers", answers(q), answers(p))
	same(t, "Least", four(pair.Least(q)), four(pair.Least(p)))
	same(t, "Wrong", three(pair.Wrong(q)), three(pair.Wrong(p)))
	same(t, "Clash", two(pair.Clash(q)), two(pair.Clash(p)))
}

// TestGreater: P3.10. If all deviations are greater by the same number only that is told.
func TestGreater(t *testing.T) {
	c := chance(8)
	for range cases {
		p, _ := c.pair(true, true)
		least, greatest := 20, -20
		for _, s := range p.Blocks {
			least, greatest = min(least, s.Lo), max(greatest, s.Hi)
		}
		by := c.between(-20-least, 20-greatest)
		q := p
		q.Blocks = slices.Clone(p.Blocks)
		for i, s := range p.Blocks {
			q.Blocks[i] = span(s.Lo+by, s.Hi+by)
		}
		for a := range p.Blocks {
			known, e := pair.Known(p, a)
			if e == api.OK {
				known = span(known.Lo+by, known.Hi+by)
			}
			same(t, "Known", two(pair.Known(q, a)), two(known, e))
			for b := range p.Blocks {
				same(t, "Differ", two(pair.Differ(q, a, b)), two(pair.Differ(p, a, b)))
			}
		}
		same(t, "Longest", three(pair.Longest(q)), three(pair.Longest(p)))
		sameButKnown(t, p, q)
		if t.Failed() {
			t.Fatalf("the pairs are %v and %v", p, q)
		}
	}
}

// TestMirror: P3.10. If A and B change places and all deviations have the other sign, so have those that are told.
func TestMirror(t *testing.T) {
	c := chance(9)
	for range cases {
		p, _ := c.pair(true, true)
		q := p
		q.Blocks, q.Reads = slices.Clone(p.Blocks), slices.Clone(p.Reads)
		for i, s := range p.Blocks {
			q.Blocks[i] = negative(s)
		}
		for i, r := range p.Reads {
			q.Reads[i].A, q.Reads[i].B = r.B, r.A
		}
		for a := range p.Blocks {
			known, e := pair.Known(p, a)
			same(t, "Known", two(pair.Known(q, a)), two(negative(known), e))
			for b := range p.Blocks {
				differ, e := pair.Differ(p, a, b)
				same(t, "Differ", two(pair.Differ(q, a, b)), two(negative(differ), e))
			}
		}
		sameButKnown(t, p, q)
		if t.Failed() {
			t.Fatalf("the pairs are %v and %v", p, q)
		}
	}
}

// kept returns a pair with the readings of a set alone.
func kept(p api.Pair, set int) api.Pair {
	all := p.Reads
	p.Reads = nil
	for i, r := range all {
		if set>>i&1 == 1 {
			p.Reads = append(p.Reads, r)
		}
	}
	return p
}

// TestFewest: P4. The readings that are told clash alone, and no longer once any one of them is left out; without those that must be wrong there is a truth, and with any one of them there is none.
func TestFewest(t *testing.T) {
	c := chance(10)
	for range cases {
		p, _ := c.pair(true, true)
		_, wrong, _ := pair.Wrong(p)
		clash, e := pair.Clash(p)
		if (e == api.OK) == truthful(p) || (wrong == 0) != truthful(p) {
			t.Fatalf("%v: wrong %b, clash %b, %v", p, wrong, clash, e)
		}
		if e == api.OK && truthful(kept(p, clash)) || !truthful(kept(p, ^wrong)) {
			t.Fatalf("%v: wrong %b, clash %b, %v", p, wrong, clash, e)
		}
		for i := range p.Reads {
			if clash>>i&1 == 1 && !truthful(kept(p, clash&^(1<<i))) {
				t.Fatalf("%v: of the readings %b the reading %d is not needed", p, clash, i)
			}
			if wrong>>i&1 == 1 && truthful(kept(p, ^wrong|1<<i)) {
				t.Fatalf("%v: of the readings %b the reading %d need not be wrong", p, wrong, i)
			}
		}
	}
}

// TestReplay: P11. The same call returns the same, however often it is made.
func TestReplay(t *testing.T) {
	c := chance(11)
	for range 200 {
		p, _ := c.pair(true, true)
		n := len(p.Blocks)
		for _, call := range calls(with{c.below(n), c.below(n), c.below(n), c.between(0, 60)}) {
			same(t, call.name, call.do(p), call.do(p))
		}
	}
}
