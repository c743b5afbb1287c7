package wear_test

import (
	"slices"
	"testing"

	"blockworks/api"
	"blockworks/wear"
)

// cases is how many blocks each of these tests goes through.
const cases = 600

// TestModel: P6.1 to P6.6, of many blocks.
func TestModel(t *testing.T) {
	c := chance(1)
	clashing := 0
	for range cases {
		w, is := c.block(api.WearEvents, true)
		m := modelOf(w)
		same(t, "Clash", two(wear.Clash(w)), m.clash())
		if !m.truthful() {
			clashing++
			for _, call := range calls(beside{0, c.near(is), c.reading(is.last(), true).Span, c.days()}) {
				if call.name != "Clash" {
					wantError(t, call, w, api.ErrClash)
				}
			}
		} else {
			compareLengths(t, m)
			for range 4 {
				compareAsked(t, &c, m, is)
			}
		}
		if t.Failed() {
			t.Fatalf("the block is %v", w)
		}
	}
	if clashing < cases/5 || clashing > cases*4/5 {
		t.Errorf("%d of %d blocks have no truth: too many are of one kind", clashing, cases)
	}
}

// compareLengths compares what is told of lengths; that all integers of a span are those of a truth is of P6.8.
func compareLengths(t *testing.T, m model) {
	t.Helper()
	lost, all := m.lost.ends()
	same(t, "Lost", two(wear.Lost(m.w)), two(lost, api.OK))
	for i, lengths := range m.after[1:] {
		s, none := lengths.ends()
		same(t, "After", two(wear.After(m.w, i)), two(s, api.OK))
		all = all && none
	}
	same(t, "that all integers are those of a truth", all, true)
}

func compareAsked(t *testing.T, c *chance, m model, is truth) {
	t.Helper()
	last, _ := m.last().ends()
	for _, limit := range []int{c.near(is), last.Lo, last.Lo + 1, last.Hi, last.Hi + 1} {
		surely, perhaps := m.below(limit)
		same(t, "Below", three(wear.Below(m.w, limit)), sets(surely, perhaps))
		same(t, "Until", two(wear.Until(m.w, limit)), m.until(limit))
		days := c.days()
		same(t, "Day", two(wear.Day(m.w, limit, days)), m.day(limit, days))
	}
	for _, shows := range []api.Span{c.reading(is.last(), true).Span, last, span(last.Lo+1, last.Hi+1), span(last.Lo-1, last.Hi-1), span(last.Lo-1, last.Lo-1), span(last.Hi+1, last.Hi+1), span(last.Lo, last.Lo), span(last.Hi, last.Hi)} {
		same(t, "Fits", two(wear.Fits(m.w, shows)), m.fits(shows))
	}
}

// TestTrue: P6.8, P2 and P8. However much each use, and each lap, truly took off, if readings are right: the length is within what is told, and for as many uses as are told it is not too short.
func TestTrue(t *testing.T) {
	c := chance(2)
	for range cases * 4 {
		w, is := c.block(api.WearEvents, false)
		if n, e := wear.Clash(w); e != api.ErrNone {
			t.Fatalf("%v: the readings %b clash, %v", w, n, e)
		}
		for i, length := range is.after {
			if s, e := wear.After(w, i); e != api.OK || !inside(length, s) {
				t.Fatalf("%v: after %d the length is %d, and told are %v, %v", w, i, length, s, e)
			}
		}
		if s, e := wear.Lost(w); e != api.OK || !inside(is.first-is.last(), s) {
			t.Fatalf("%v: it lost %d, and told are %v, %v", w, is.first-is.last(), s, e)
		}
		limit := c.near(is)
		surely, perhaps, e := wear.Below(w, limit)
		for i, length := range is.after {
			if e != api.OK || has(surely, i) && length >= limit || !has(perhaps, i) && length < limit {
				t.Fatalf("%v: below %d are %b and %b, %v; after %d it is %d", w, limit, surely, perhaps, e, i, length)
			}
		}
		shows := c.reading(is.last(), true).Span
		fits, e := wear.Fits(w, shows)
		if so := inside(is.last(), shows); e != api.OK || so && fits == api.WearNever || !so && fits == api.WearAlways {
			t.Fatalf("%v: of %v it is told: %d, %v; the length is %d", w, shows, fits, e, is.last())
		}
		longEnough(t, &c, w, is.last(), limit)
	}
}

// longEnough fails if a block that truly is so long is too short after the uses, or before the day, that are told.
func longEnough(t *testing.T, c *chance, w api.Wear, length, limit int) {
	t.Helper()
	if many, e := wear.Until(w, limit); e == api.OK {
		if left := c.worn(length, many, w.Use); left < limit {
			t.Fatalf("%v: after %d uses it is %d, less than %d", w, many, left, limit)
		}
	} else if e != api.ErrNone {
		t.Fatalf("%v: Until %d: %v", w, limit, e)
	}
	days := c.days()
	day, e := wear.Day(w, limit, days)
	if e != api.OK {
		day = len(days)
	}
	for _, many := range days[:day] {
		length = c.worn(length, many, w.Use)
		if length < limit {
			t.Fatalf("%v: before the day %d of %v it is %d, less than %d", w, day, days, length, limit)
		}
	}
}

// TestWorst: P6.3, P6.4 and P6.8. If each use takes off the most, the shortest block that can be is too short just when it is told that it can be.
func TestWorst(t *testing.T) {
	c := chance(3)
	for range cases * 2 {
		w, is := c.block(api.WearEvents, false)
		limit, days := c.near(is), c.days()
		last := lastTold(w)
		many, e := wear.Until(w, limit)
		if (e == api.OK) != (last.Lo >= limit) || e == api.OK && (last.Lo-many*w.Use.Hi < limit || many < api.WearMore && last.Lo-(many+1)*w.Use.Hi >= limit) {
			t.Fatalf("%v, which is %v: Until %d: %d, %v", w, last, limit, many, e)
		}
		day, e := wear.Day(w, limit, days)
		least, want := last.Lo, none()
		for i, n := range days {
			least -= n * w.Use.Hi
			if least < limit {
				want = number(i)
				break
			}
		}
		same(t, "Day", two(day, e), want)
		if t.Failed() {
			t.Fatalf("%v, which is %v, for %d and %v", w, last, limit, days)
		}
	}
}

// lastTold returns how long a block is after all events, as it is told.
func lastTold(w api.Wear) api.Span {
	if len(w.Events) == 0 {
		return w.Length
	}
	s, _ := wear.After(w, len(w.Events)-1)
	return s
}

// TestIntegers: P6.8. All integers of a span that is told are those of a truth: a reading of it alone leaves one, and one of a length beside it leaves none.
func TestIntegers(t *testing.T) {
	c := chance(4)
	for range cases {
		w, _ := c.block(api.WearEvents-1, true)
		for i := range w.Events {
			s, e := wear.After(w, i)
			if e != api.OK {
				continue
			}
			for n := s.Lo - 1; n <= s.Hi+1; n++ {
				_, e := wear.Clash(with(w, i+1, read(n, n)))
				if (e == api.ErrNone) != inside(n, s) {
					t.Fatalf("%v: after %d it is %v, and for %d: %v", w, i, s, n, e)
				}
			}
		}
	}
}

// TestShorter: P6.8. A block never gets longer: after a later event neither end is greater, and it is too short for good.
func TestShorter(t *testing.T) {
	c := chance(5)
	compared := 0
	for range cases * 4 {
		w, is := c.block(api.WearEvents, true)
		if _, e := wear.Clash(w); e != api.ErrNone {
			continue
		}
		for i := range len(w.Events) - 1 {
			before, _ := wear.After(w, i)
			after, _ := wear.After(w, i+1)
			if after.Lo > before.Lo || after.Hi > before.Hi {
				t.Fatalf("%v: after %d it is %v, and then %v", w, i, before, after)
			}
			compared++
		}
		surely, perhaps, _ := wear.Below(w, c.near(is))
		if surely&^perhaps != 0 || surely != fromFirst(surely, len(w.Events)) || perhaps != fromFirst(perhaps, len(w.Events)) {
			t.Fatalf("%v is below after %b and %b", w, surely, perhaps)
		}
	}
	if compared < cases {
		t.Errorf("only %d lengths were compared", compared)
	}
}

// fromFirst returns, of so many events, those from the first one of a set on.
func fromFirst(set, many int) int {
	if set == 0 {
		return 0
	}
	return 1<<many - set&-set
}

// narrow returns a block of which more was read, or more narrowly, and which number each event then has.
func (c *chance) narrow(w api.Wear, is truth) (v api.Wear, stands []int) {
	v = clone(w)
	at := len(w.Events)
	if at < api.WearEvents && c.below(2) == 0 {
		at = c.between(0, at)
		v = with(w, at, c.reading(append([]int{is.first}, is.after...)[at], c.below(4) == 0))
	} else {
		for i := range v.Events {
			if s := &v.Events[i].Span; v.Events[i].Kind == api.WearRead && c.below(2) == 0 {
				s.Lo = c.between(s.Lo, s.Hi)
				s.Hi = c.between(s.Lo, s.Hi)
			}
		}
	}
	for i := range w.Events {
		if i >= at {
			i++
		}
		stands = append(stands, i)
	}
	return v, stands
}

// TestMore: P6.8 and P2. With a reading more, or a narrower one, nothing is told less exactly, unless there is no truth then.
func TestMore(t *testing.T) {
	c := chance(6)
	compared := 0
	for range cases * 2 {
		w, is := c.block(api.WearEvents, true)
		v, stands := c.narrow(w, is)
		before, e := wear.Clash(w)
		after, f := wear.Clash(v)
		if e == api.OK {
			if f != api.OK || size(after) > size(before) {
				t.Fatalf("%v: %b clash, and of %v %b, %v", w, before, v, after, f)
			}
			continue
		}
		if f == api.OK {
			continue
		}
		compared++
		was, _ := wear.Lost(w)
		now, _ := wear.Lost(v)
		noWider(t, "Lost", was, now)
		for i, n := range stands {
			was, _ := wear.After(w, i)
			now, _ := wear.After(v, n)
			noWider(t, "After", was, now)
		}
		limit, days := c.near(is), c.days()
		surely, perhaps, _ := wear.Below(w, limit)
		surer, fewer, _ := wear.Below(v, limit)
		for i, n := range stands {
			if has(surely, i) && !has(surer, n) || !has(perhaps, i) && has(fewer, n) {
				t.Errorf("Below %d: %b, %b, and with more %b, %b", limit, surely, perhaps, surer, fewer)
			}
		}
		noSooner(t, "Until", two(wear.Until(w, limit)), two(wear.Until(v, limit)), -1)
		noSooner(t, "Day", two(wear.Day(w, limit, days)), two(wear.Day(v, limit, days)), api.WearDays)
		shows := c.reading(is.last(), true).Span
		fits, _ := wear.Fits(w, shows)
		if still, _ := wear.Fits(v, shows); fits != api.WearPerhaps && still != fits {
			t.Errorf("Fits %v: %d, and with more %d", shows, fits, still)
		}
		if t.Failed() {
			t.Fatalf("%v, and with more %v", w, v)
		}
	}
	if compared < cases {
		t.Errorf("only %d blocks were compared", compared)
	}
}

func noWider(t *testing.T, call string, was, now api.Span) {
	t.Helper()
	if now.Lo < was.Lo || now.Hi > was.Hi {
		t.Errorf("%s: %v, and with more %v", call, was, now)
	}
}

// noSooner fails if a block is told to be too short sooner than it was; if no number is told, that means the other one.
func noSooner(t *testing.T, call string, was, now [2]any, untold int) {
	t.Helper()
	when := func(x [2]any) int {
		if x[1] == api.OK {
			return x[0].(int)
		}
		return untold
	}
	if when(now) < when(was) {
		t.Errorf("%s: %v, and with more %v", call, was, now)
	}
}

// TestSure: P6.8. A reading that surely fits tells nothing.
func TestSure(t *testing.T) {
	c := chance(7)
	sure := 0
	for range cases * 4 {
		w, is := c.block(api.WearEvents-1, true)
		shows := c.reading(is.last(), false).Span
		if fits, _ := wear.Fits(w, shows); fits != api.WearAlways {
			continue
		}
		sure++
		v := with(w, len(w.Events), read(shows.Lo, shows.Hi))
		limit, days := c.near(is), c.days()
		for i := range w.Events {
			same(t, "After", two(wear.After(v, i)), two(wear.After(w, i)))
		}
		last := lastTold(w)
		same(t, "After the reading", two(wear.After(v, len(w.Events))), two(last, api.OK))
		same(t, "Lost", two(wear.Lost(v)), two(wear.Lost(w)))
		surely, perhaps, _ := wear.Below(w, limit)
		surer, more, _ := wear.Below(v, limit)
		added := 1 << len(w.Events)
		same(t, "Below", [2]int{surer &^ added, more &^ added}, [2]int{surely, perhaps})
		same(t, "Below after the reading", [2]bool{surer&added != 0, more&added != 0}, [2]bool{last.Hi < limit, last.Lo < limit})
		same(t, "Until", two(wear.Until(v, limit)), two(wear.Until(w, limit)))
		same(t, "Day", two(wear.Day(v, limit, days)), two(wear.Day(w, limit, days)))
		other := c.reading(is.last(), true).Span
		same(t, "Fits", two(wear.Fits(v, other)), two(wear.Fits(w, other)))
		same(t, "Clash", two(wear.Clash(v)), none())
		if t.Failed() {
			t.Fatalf("%v, and with a reading that fits %v", w, v)
		}
	}
	if sure < cases/2 {
		t.Errorf("only %d readings surely fit", sure)
	}
}

// TestFewest: P4. The readings that clash are reads, they alone leave no truth, and with any one less there is one.
func TestFewest(t *testing.T) {
	c := chance(8)
	clashing := 0
	for range cases * 2 {
		w, _ := c.block(api.WearEvents, true)
		set, e := wear.Clash(w)
		if e != api.OK {
			same(t, "Clash", two(set, e), none())
			continue
		}
		clashing++
		if set == 0 || set&^reads(w) != 0 {
			t.Fatalf("%v: %b clash", w, set)
		}
		if _, e := wear.Lost(only(w, set)); e != api.ErrClash {
			t.Fatalf("%v: %b clash, and alone: %v", w, set, e)
		}
		for i := range w.Events {
			if _, e := wear.Lost(only(w, set&^(1<<i))); has(set, i) && e != api.OK {
				t.Fatalf("%v: %b clash, and without %d: %v", w, set, i, e)
			}
		}
	}
	if clashing < cases/5 {
		t.Errorf("only %d blocks have no truth", clashing)
	}
}

// swapped returns a block of which two events that follow one another, and neither or both of which are reads, have changed places, and their numbers; or the same block.
func (c *chance) swapped(w api.Wear) (api.Wear, int) {
	v := clone(w)
	for i := range len(v.Events) - 1 {
		if (v.Events[i].Kind == api.WearRead) == (v.Events[i+1].Kind == api.WearRead) && c.below(2) == 0 {
			v.Events[i], v.Events[i+1] = v.Events[i+1], v.Events[i]
			return v, i
		}
	}
	return v, -1
}

// TestOrder: P11. Which of two readings at the same length comes first makes no difference, nor which of two uses or laps does; but numbers change, and the length between them.
func TestOrder(t *testing.T) {
	c := chance(9)
	changed := 0
	for range cases * 2 {
		w, is := c.block(api.WearEvents, true)
		v, at := c.swapped(w)
		if at >= 0 {
			changed++
		}
		asked := beside{0, c.near(is), c.reading(is.last(), true).Span, c.days()}
		before, after := calls(asked), calls(asked)
		for n, call := range before {
			if !slices.Contains([]string{"After", "Below", "Clash"}, call.name) {
				same(t, call.name, after[n].do(v), call.do(w))
			}
		}
		set, e := wear.Clash(w)
		other, f := wear.Clash(v)
		same(t, "Clash", two(size(other), f), two(size(set), e))
		for i := range w.Events {
			if i != at {
				same(t, "After", two(wear.After(v, i)), two(wear.After(w, i)))
			}
		}
		if t.Failed() {
			t.Fatalf("%v, and in another order %v", w, v)
		}
	}
	if changed < cases/2 {
		t.Errorf("only %d blocks were changed", changed)
	}
}

// TestApart: P11 and the section Terms. Each use takes off a number of its own: as many uses are the same at once, or in two parts.
func TestApart(t *testing.T) {
	c := chance(10)
	for range cases {
		w, is := c.block(api.WearEvents-1, true)
		i := slices.IndexFunc(w.Events, func(e api.WearEvent) bool { return e.Kind == api.WearUses })
		if i < 0 {
			continue
		}
		v := clone(w)
		part := c.between(0, v.Events[i].Uses)
		v.Events[i].Uses -= part
		v = with(v, i+1, uses(part))
		limit, days, shows := c.near(is), c.days(), c.reading(is.last(), true).Span
		same(t, "Lost", two(wear.Lost(v)), two(wear.Lost(w)))
		same(t, "Until", two(wear.Until(v, limit)), two(wear.Until(w, limit)))
		same(t, "Day", two(wear.Day(v, limit, days)), two(wear.Day(w, limit, days)))
		same(t, "Fits", two(wear.Fits(v, shows)), two(wear.Fits(w, shows)))
		for n := i; n < len(w.Events); n++ {
			same(t, "After", two(wear.After(v, n+1)), two(wear.After(w, n)))
		}
		if t.Failed() {
			t.Fatalf("%v, and in parts %v", w, v)
		}
	}
}

// TestOneAnother: P6.2 to P6.5. What is told of lengths by one function agrees with what is told by the others.
func TestOneAnother(t *testing.T) {
	c := chance(11)
	for range cases * 2 {
		w, is := c.block(api.WearEvents, false)
		limit := c.near(is)
		surely, perhaps, _ := wear.Below(w, limit)
		for i := range w.Events {
			s, _ := wear.After(w, i)
			same(t, "Below", [2]bool{has(surely, i), has(perhaps, i)}, [2]bool{s.Hi < limit, s.Lo < limit})
		}
		many, e := wear.Until(w, limit)
		for n := range api.WearUsed + 1 {
			_, f := wear.Day(w, limit, []int{n})
			same(t, "that a day of so many uses is borne", f == api.ErrNone, e == api.OK && n <= many)
		}
		same(t, "Fits what it is told to be", two(wear.Fits(w, lastTold(w))), number(api.WearAlways))
		if t.Failed() {
			t.Fatalf("%v, for %d", w, limit)
		}
	}
}

// TestReplay: P11. The same call returns the same, however often it is made.
func TestReplay(t *testing.T) {
	c := chance(12)
	for range cases / 4 {
		w, is := c.block(api.WearEvents, true)
		for _, call := range calls(beside{0, c.near(is), c.reading(is.last(), true).Span, c.days()}) {
			first := call.do(w)
			for range 3 {
				same(t, call.name, call.do(w), first)
			}
		}
	}
}
