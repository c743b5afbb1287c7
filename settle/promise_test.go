package settle_test

import (
	"slices"
	"testing"

	"blockworks/api"
	"blockworks/settle"
)

// cases is how many settles each of these tests goes through.
const cases = 500

// minutes returns all minutes of a settle.
func minutes(s api.Settle) []int {
	var list []int
	for minute := range s.Last + 1 {
		list = append(list, minute)
	}
	return list
}

// TestModel: P9.1 to P9.7, of many settles.
func TestModel(t *testing.T) {
	c := chance(1)
	whens, verdicts := [2]int{}, [3]int{}
	for range cases {
		s, _ := c.settle()
		m := modelOf(s)
		for block := range s.Blocks {
			for _, minute := range minutes(s) {
				same(t, "Excess", two(settle.Excess(s, block, minute)), two(m.excess(block, minute), api.OK))
				same(t, "Longer", two(settle.Longer(s, block, minute)), two(m.longer(block, minute), api.OK))
				verdict := m.settled(block, minute)
				same(t, "Settled", two(settle.Settled(s, block, minute)), number(verdict))
				verdicts[verdict]++
			}
			when := m.when(block)
			same(t, "When", two(settle.When(s, block)), when)
			whens[min(1, int(when[1].(api.Errno)))]++
			same(t, "Rests", row(settle.Rests(s, block)), these(m.rests(block)...))
			for range 3 {
				excess := c.between(-100, 100)
				same(t, "Wait", two(settle.Wait(s, block, excess)), m.wait(block, excess))
			}
		}
		same(t, "All", two(settle.All(s)), m.all())
		compareLatest(t, &c, m)
		if t.Failed() {
			t.Fatalf("the settle is %v", s)
		}
	}
	for _, many := range append(whens[:], verdicts[:]...) {
		if many < cases/4 {
			t.Errorf("of blocks that settle, and do not, there are %v, and of verdicts %v: too many are of one kind", whens, verdicts)
		}
	}
}

func compareLatest(t *testing.T, c *chance, m model) {
	t.Helper()
	for range 3 {
		block, heat, by := c.below(len(m.Blocks)), c.between(-40, 40), c.between(0, min(12, m.Last))
		same(t, "Latest", two(settle.Latest(m.Settle, block, heat, by)), m.latest(block, heat, by))
	}
}

// TestAllWaits: P9.6. Of all excesses, within all bounds, for the quickest and the slowest block.
func TestAllWaits(t *testing.T) {
	for near := range 21 {
		for slow := 2; slow <= 8; slow++ {
			s := alone(near, 1, exactly(0), exactly(slow))
			m := model{Settle: s}
			for excess := -100; excess <= 100; excess++ {
				same(t, "Wait", two(settle.Wait(s, 0, excess)), m.wait(0, excess))
			}
		}
	}
}

// TestTrue: P9.8, P2 and P8. However warm and slow blocks truly are, and however warm touches truly make them: what is told is so.
func TestTrue(t *testing.T) {
	c := chance(2)
	for range cases * 4 {
		s, is := c.settle()
		all, e := settle.All(s)
		for block, so := range is.blocks {
			course := is.course(s, block)
			for minute, x := range course {
				if told, e := settle.Excess(s, block, minute); e != api.OK || !inside(x, told) {
					t.Fatalf("%v: the excess of %d in %d is %d, and told is %v, %v", s, block, minute, x, told, e)
				}
				if told, e := settle.Longer(s, block, minute); e != api.OK || !inside(grown(x, so.grows), told) {
					t.Fatalf("%v: %d is longer in %d by %d, and told is %v, %v", s, block, minute, grown(x, so.grows), told, e)
				}
				told, e := settle.Settled(s, block, minute)
				if is := near(x, s.Near); e != api.OK || is && told == api.SettleNever || !is && told == api.SettleAlways {
					t.Fatalf("%v: that %d has settled in %d is %v, and told is %d, %v", s, block, minute, is, told, e)
				}
			}
			when, f := settle.When(s, block)
			if e == api.OK && (f != api.OK || when > all) {
				t.Fatalf("%v: all have settled from %d on, and %d from %d on, %v", s, all, block, when, f)
			}
			if f == api.OK {
				staysNear(t, s, course[when:])
			}
			rests, _ := settle.Rests(s, block)
			for _, x := range rests {
				staysNear(t, s, course[x.Lo:x.Hi+1])
			}
			truly(t, &c, s, is, block)
		}
	}
}

// staysNear fails if one of the excesses is not near.
func staysNear(t *testing.T, s api.Settle, excesses []int) {
	t.Helper()
	for _, x := range excesses {
		if !near(x, s.Near) {
			t.Fatalf("%v: it should have settled, and its excess is %d", s, x)
		}
	}
}

// truly fails if a block has not settled that has waited for as long as is told, or that was touched when it could be.
func truly(t *testing.T, c *chance, s api.Settle, is truth, block int) {
	t.Helper()
	x := c.between(-100, 100)
	wait, e := settle.Wait(s, block, x)
	if e != api.OK {
		t.Fatalf("%v: Wait %d with %d: %v", s, block, x, e)
	}
	for range wait {
		x = fall(x, is.blocks[block].slow)
	}
	for range 5 {
		staysNear(t, s, []int{x})
		x = fall(x, is.blocks[block].slow)
	}
	heat, by := c.between(-30, 30), c.between(0, min(20, s.Last))
	minute, e := settle.Latest(s, block, heat, by)
	if e != api.OK {
		return
	}
	if minute < 0 || minute > by {
		t.Fatalf("%v: Latest %d with %d by %d: %d", s, block, heat, by, minute)
	}
	is.heats = append(slices.Clone(is.heats), heat)
	course := is.course(with(s, touch(block, minute, heat, heat)), block)
	staysNear(t, s, course[by:by+1])
}

// TestEnds: P9.8. Both ends of each span are those of a truth: one in which the excess in the beginning and all heats are least, or greatest.
func TestEnds(t *testing.T) {
	c := chance(3)
	between := 0
	for range cases {
		s, _ := c.settle()
		for block, b := range s.Blocks {
			var low, high [][]int
			for slow := b.Slow.Lo; slow <= b.Slow.Hi; slow++ {
				low = append(low, endOf(s, block, slow, func(x api.Span) int { return x.Lo }))
				high = append(high, endOf(s, block, slow, func(x api.Span) int { return x.Hi }))
			}
			for _, minute := range minutes(s) {
				told, _ := settle.Excess(s, block, minute)
				least := slices.MinFunc(low, func(a, b []int) int { return a[minute] - b[minute] })[minute]
				greatest := slices.MaxFunc(high, func(a, b []int) int { return a[minute] - b[minute] })[minute]
				same(t, "Excess", told, span(least, greatest))
				if last := len(low) - 1; least < min(low[0][minute], low[last][minute]) || greatest > max(high[0][minute], high[last][minute]) {
					between++
				}
			}
		}
		if t.Failed() {
			t.Fatalf("the settle is %v", s)
		}
	}
	if between < 5 {
		t.Errorf("only %d ends are of a block that is neither the quickest nor the slowest", between)
	}
}

// endOf returns the course of a block that is so slow if all else that is not known is at one end.
func endOf(s api.Settle, number, slow int, end func(api.Span) int) []int {
	is := truth{blocks: make([]block, len(s.Blocks))}
	is.blocks[number] = block{excess: end(s.Blocks[number].Excess), slow: slow}
	for _, t := range s.Touches {
		is.heats = append(is.heats, end(t.Heat))
	}
	return is.course(s, number)
}

// TestStays: P9.8. An excess that is not above another one stays so, and without a touch none is nearer to 0 than the next minute's.
func TestStays(t *testing.T) {
	for slow := 2; slow <= 8; slow++ {
		for x := -100; x <= 100; x++ {
			s := made(0, 60, []api.SettleBlock{{Excess: exactly(x), Slow: exactly(slow)}, {Excess: exactly(min(100, x+1)), Slow: exactly(slow)}})
			now := x
			for _, minute := range minutes(s) {
				a, _ := settle.Excess(s, 0, minute)
				b, _ := settle.Excess(s, 1, minute)
				if a.Lo != a.Hi || b.Lo != b.Hi || a.Lo > b.Lo {
					t.Fatalf("as slow as %d, in %d from %d: %v, and from one more %v", slow, minute, x, a, b)
				}
				if max(a.Lo, -a.Lo) > max(now, -now) || a.Lo*now < 0 {
					t.Fatalf("as slow as %d, in %d from %d: first %d, and then %d", slow, minute, x, now, a.Lo)
				}
				now = a.Lo
			}
		}
	}
}

// TestStaysSettled: P9.8. Without a touch a block that has settled stays so.
func TestStaysSettled(t *testing.T) {
	c := chance(4)
	for range cases {
		s, _ := c.settle()
		s.Touches = nil
		for block := range s.Blocks {
			before := api.SettleNever
			for _, minute := range minutes(s) {
				now, _ := settle.Settled(s, block, minute)
				if now < before {
					t.Fatalf("%v: of %d it is told %d, and in %d %d", s, block, before, minute, now)
				}
				before = now
			}
		}
	}
}

// narrow returns a settle of which some is known better.
func (c *chance) narrow(s api.Settle) api.Settle {
	v := clone(s)
	for i := range v.Blocks {
		b := &v.Blocks[i]
		b.Excess, b.Slow, b.Grows = c.part(b.Excess), c.part(b.Slow), c.part(b.Grows)
	}
	for i := range v.Touches {
		v.Touches[i].Heat = c.part(v.Touches[i].Heat)
	}
	return v
}

// part returns a part of a span, or often all of it.
func (c *chance) part(s api.Span) api.Span {
	if c.below(2) == 0 {
		return s
	}
	lo := c.between(s.Lo, s.Hi)
	return span(lo, c.between(lo, s.Hi))
}

// TestMore: P9.9 and P2. If something is known better nothing is told less exactly.
func TestMore(t *testing.T) {
	c := chance(5)
	for range cases {
		s, _ := c.settle()
		v := c.narrow(s)
		for block := range s.Blocks {
			for _, minute := range minutes(s) {
				was, _ := settle.Excess(s, block, minute)
				now, _ := settle.Excess(v, block, minute)
				noWider(t, "Excess", was, now)
				was, _ = settle.Longer(s, block, minute)
				now, _ = settle.Longer(v, block, minute)
				noWider(t, "Longer", was, now)
				told, _ := settle.Settled(s, block, minute)
				if then, _ := settle.Settled(v, block, minute); told != api.SettlePerhaps && then != told {
					t.Errorf("Settled: %d, and then %d", told, then)
				}
			}
		}
		noLater(t, &c, s, v)
		if t.Failed() {
			t.Fatalf("%v, and known better %v", s, v)
		}
	}
}

func noWider(t *testing.T, call string, was, now api.Span) {
	t.Helper()
	if now.Lo < was.Lo || now.Hi > was.Hi {
		t.Errorf("%s: %v, and then %v", call, was, now)
	}
}

// noLater fails if blocks settle later than they did, rest less, have to wait longer, or cannot be touched as late.
func noLater(t *testing.T, c *chance, s, v api.Settle) {
	t.Helper()
	notAfter(t, "All", two(settle.All(s)), two(settle.All(v)))
	for block := range s.Blocks {
		notAfter(t, "When", two(settle.When(s, block)), two(settle.When(v, block)))
		was, _ := settle.Rests(s, block)
		now, _ := settle.Rests(v, block)
		for _, minute := range minutes(s) {
			if rests(was, minute) && !rests(now, minute) {
				t.Errorf("%d rests in %v, and then in %v", block, was, now)
			}
		}
		excess, heat, by := c.between(-100, 100), c.between(-30, 30), c.between(0, min(20, s.Last))
		notAfter(t, "Wait", two(settle.Wait(s, block, excess)), two(settle.Wait(v, block, excess)))
		latest, e := settle.Latest(s, block, heat, by)
		still, f := settle.Latest(v, block, heat, by)
		if e == api.OK && (f != api.OK || still < latest) {
			t.Errorf("Latest: %d, and then %d, %v", latest, still, f)
		}
	}
}

// notAfter fails if there was a minute, and there is none, or a later one.
func notAfter(t *testing.T, call string, was, now [2]any) {
	t.Helper()
	if was[1] == api.OK && (now[1] != api.OK || now[0].(int) > was[0].(int)) {
		t.Errorf("%s: %v, and then %v", call, was, now)
	}
}

// rests returns whether a minute is in one of some spans.
func rests(list []api.Span, minute int) bool {
	return slices.ContainsFunc(list, func(s api.Span) bool { return inside(minute, s) })
}

// TestNearer: P9.9. With a greater Near nothing settles later, and excesses are the same.
func TestNearer(t *testing.T) {
	c := chance(6)
	for range cases {
		s, _ := c.settle()
		v := clone(s)
		v.Near = c.between(s.Near, api.SettleNear)
		for block := range s.Blocks {
			for _, minute := range minutes(s) {
				same(t, "Excess", two(settle.Excess(v, block, minute)), two(settle.Excess(s, block, minute)))
				same(t, "Longer", two(settle.Longer(v, block, minute)), two(settle.Longer(s, block, minute)))
				was, _ := settle.Settled(s, block, minute)
				if now, _ := settle.Settled(v, block, minute); now < was {
					t.Errorf("Settled: %d, and then %d", was, now)
				}
			}
		}
		noLater(t, &c, s, v)
		if t.Failed() {
			t.Fatalf("%v, and then within %d", s, v.Near)
		}
	}
}

func opposite(s api.Span) api.Span { return span(-s.Hi, -s.Lo) }

// TestOtherSign: P9.9. If all excesses and heats have the other sign, only that changes of what is told; by how much a block is longer is rounded down also then.
func TestOtherSign(t *testing.T) {
	c := chance(7)
	for range cases {
		s, _ := c.settle()
		v := clone(s)
		for i := range v.Blocks {
			v.Blocks[i].Excess = opposite(s.Blocks[i].Excess)
		}
		for i := range v.Touches {
			v.Touches[i].Heat = opposite(s.Touches[i].Heat)
		}
		same(t, "All", two(settle.All(v)), two(settle.All(s)))
		for block := range s.Blocks {
			for _, minute := range minutes(s) {
				x, _ := settle.Excess(s, block, minute)
				same(t, "Excess", two(settle.Excess(v, block, minute)), two(opposite(x), api.OK))
				same(t, "Settled", two(settle.Settled(v, block, minute)), two(settle.Settled(s, block, minute)))
				long, _ := settle.Longer(s, block, minute)
				then, e := settle.Longer(v, block, minute)
				oppositeButRounded(t, opposite(long), then, e)
			}
			same(t, "When", two(settle.When(v, block)), two(settle.When(s, block)))
			same(t, "Rests", row(settle.Rests(v, block)), row(settle.Rests(s, block)))
			x, by := c.between(-100, 100), c.between(0, min(12, s.Last))
			same(t, "Wait", two(settle.Wait(v, block, -x)), two(settle.Wait(s, block, x)))
			same(t, "Latest", two(settle.Latest(v, block, -x, by)), two(settle.Latest(s, block, x, by)))
		}
		if t.Failed() {
			t.Fatalf("%v, and with the other sign %v", s, v)
		}
	}
}

// oppositeButRounded fails unless each end is that which is wanted, or less by 1, as what is not whole is rounded down on both sides of 0.
func oppositeButRounded(t *testing.T, want, got api.Span, e api.Errno) {
	t.Helper()
	if e != api.OK || !inside(got.Lo-want.Lo, span(-1, 0)) || !inside(got.Hi-want.Hi, span(-1, 0)) {
		t.Errorf("Longer: %v, %v, want %v", got, e, want)
	}
}

// TestWholeSteps: P9.9. Where nothing is rounded, by how much a block is longer has the other sign.
func TestWholeSteps(t *testing.T) {
	c := chance(8)
	for range cases {
		s, _ := c.settle()
		v := clone(s)
		for i := range s.Blocks {
			s.Blocks[i].Grows = exactly(c.one(0, 10, 20))
			v.Blocks[i].Grows, v.Blocks[i].Excess = s.Blocks[i].Grows, opposite(s.Blocks[i].Excess)
		}
		s.Touches, v.Touches = nil, nil
		for block := range s.Blocks {
			for _, minute := range minutes(s) {
				long, _ := settle.Longer(s, block, minute)
				same(t, "Longer", two(settle.Longer(v, block, minute)), two(opposite(long), api.OK))
			}
		}
	}
}

// told returns all that is told of a block of a settle; a list that is empty is nil.
func told(s api.Settle, block, by, warmth int) []any {
	var all []any
	for minute := range s.Last + 1 {
		for i, c := range calls(asked{block, minute, warmth}) {
			if i < 3 {
				all = append(all, c.do(s)...)
			}
		}
	}
	return append(all, two(settle.When(s, block)), row(settle.Rests(s, block)), two(settle.Wait(s, block, warmth)), two(settle.Latest(s, block, warmth, by)))
}

// TestOthers: P9.9. A block does not depend on others: it alone, or with others that are not the same, is told to be the same.
func TestOthers(t *testing.T) {
	c := chance(9)
	for range cases {
		s, _ := c.settle()
		block := c.below(len(s.Blocks))
		by, warmth := c.between(0, min(12, s.Last)), c.between(-100, 100)
		v := clone(s)
		v.Touches = nil
		for _, t := range s.Touches {
			if t.Block == block {
				v.Touches = append(v.Touches, t)
			} else if t.Block = (block + 1) % len(s.Blocks); c.below(2) == 0 {
				v.Touches = append(v.Touches, t)
			}
		}
		for i := range v.Blocks {
			if i != block {
				v.Blocks[i] = api.SettleBlock{Excess: c.around(0, 100, -100, 100), Slow: c.around(5, 3, 2, 8), Grows: c.around(9, 9, 0, 20)}
			}
		}
		same(t, "with others", told(v, block, by, warmth), told(s, block, by, warmth))
		lone := clone(v)
		lone.Blocks, lone.Touches = lone.Blocks[block:block+1], nil
		for _, t := range v.Touches {
			if t.Block == block {
				t.Block = 0
				lone.Touches = append(lone.Touches, t)
			}
		}
		same(t, "alone", told(lone, 0, by, warmth), told(s, block, by, warmth))
		if t.Failed() {
			t.Fatalf("the settle is %v, the block %d", s, block)
		}
	}
}

// TestOrder: P9.9 and P11. The order of touches makes no difference, and that of blocks changes but their numbers.
func TestOrder(t *testing.T) {
	c := chance(10)
	for range cases {
		s, _ := c.settle()
		v := clone(s)
		stands := make([]int, len(s.Blocks))
		for now, was := range c.order(len(s.Blocks)) {
			v.Blocks[now], stands[was] = s.Blocks[was], now
		}
		for now, was := range c.order(len(s.Touches)) {
			v.Touches[now] = s.Touches[was]
			v.Touches[now].Block = stands[s.Touches[was].Block]
		}
		same(t, "All", two(settle.All(v)), two(settle.All(s)))
		for block, now := range stands {
			by, warmth := c.between(0, min(12, s.Last)), c.between(-100, 100)
			same(t, "in another order", told(v, now, by, warmth), told(s, block, by, warmth))
		}
		if t.Failed() {
			t.Fatalf("%v, and in another order %v", s, v)
		}
	}
}

// TestOneAnother: P9.3 to P9.7. What is told by one function agrees with what is told by the others.
func TestOneAnother(t *testing.T) {
	c := chance(11)
	for range cases {
		s, _ := c.settle()
		last := number(0)
		for block := range s.Blocks {
			list, _ := settle.Rests(s, block)
			for i, x := range list {
				if x.Lo > x.Hi || i > 0 && x.Lo <= list[i-1].Hi+1 {
					t.Errorf("%v are not as few spans as can be, in order", list)
				}
			}
			for _, minute := range minutes(s) {
				verdict, _ := settle.Settled(s, block, minute)
				same(t, "that it rests", rests(list, minute), verdict == api.SettleAlways)
			}
			when := two(settle.When(s, block))
			if n := len(list); n > 0 && list[n-1].Hi == s.Last {
				same(t, "When", when, number(list[n-1].Lo))
			} else {
				same(t, "When", when, none())
			}
			if last[1] == api.OK && (when[1] != api.OK || when[0].(int) > last[0].(int)) {
				last = when
			}
			agreeWithTouch(t, &c, s, block)
		}
		same(t, "All", two(settle.All(s)), last)
		if t.Failed() {
			t.Fatalf("the settle is %v", s)
		}
	}
}

// agreeWithTouch fails unless a settle with a touch more is told to be settled in the minute that is told to be the latest, and in no later one; and how long to wait is told of a block that has just this excess.
func agreeWithTouch(t *testing.T, c *chance, s api.Settle, block int) {
	t.Helper()
	excess := c.between(-100, 100)
	still := made(s.Near, api.SettleLast, slices.Clone(s.Blocks))
	still.Blocks[block].Excess = exactly(excess)
	same(t, "Wait", two(settle.Wait(s, block, excess)), two(settle.When(still, block)))
	if len(s.Touches) == api.SettleTouches {
		return
	}
	heat, by := c.between(-30, 30), c.between(0, min(20, s.Last))
	latest, e := settle.Latest(s, block, heat, by)
	if e != api.OK {
		latest = -1
	}
	for minute := by; minute >= max(0, latest); minute-- {
		verdict, _ := settle.Settled(with(s, touch(block, minute, heat, heat)), block, by)
		same(t, "that it has settled if touched", verdict == api.SettleAlways, minute == latest)
	}
}

// TestReplay: P11. The same call returns the same, however often it is made.
func TestReplay(t *testing.T) {
	c := chance(12)
	for range cases / 8 {
		s, _ := c.settle()
		for _, call := range calls(asked{c.below(len(s.Blocks)), c.between(0, s.Last), c.between(-100, 100)}) {
			first := call.do(s)
			for range 3 {
				same(t, call.name, call.do(s), first)
			}
		}
	}
}
