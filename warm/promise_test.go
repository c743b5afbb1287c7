package warm_test

import (
	"math/bits"
	"slices"
	"testing"

	"blockworks/api"
	"blockworks/warm"
)

// cases is how many blocks each of these tests goes through.
const cases = 1000

// TestModel: P2.1 to P2.7, of many blocks.
func TestModel(t *testing.T) {
	c := chance(1)
	truthful := 0
	for range cases {
		w, _ := c.block(true)
		m := modelOf(w)
		e, clash := api.OK, api.ErrNone
		if m.truthful {
			truthful++
		} else {
			e, clash = api.ErrClash, api.OK
		}
		same(t, "Length", pair(warm.Length(w)), pair(m.length, e))
		same(t, "Coeff", pair(warm.Coeff(w)), pair(m.coeff, e))
		for i := range w.Readings {
			same(t, "Held", pair(warm.Held(w, i)), pair(m.held[i], e))
		}
		same(t, "Count", pair(warm.Count(w)), pair(len(m.pairs), api.OK))
		same(t, "Clash", pair(warm.Clash(w)), pair(m.clash, clash))
		compareAsked(t, &c, w, m, e)
		if t.Failed() {
			t.Fatalf("the block is %v", w)
		}
	}
	if truthful < cases/4 || truthful > cases*3/4 {
		t.Errorf("%d of %d blocks have a truth: too many are of one kind", truthful, cases)
	}
}

// compareAsked compares what depends on a warmth, an off, or offers.
func compareAsked(t *testing.T, c *chance, w api.Warm, m model, e api.Errno) {
	t.Helper()
	for range 3 {
		s := c.warmth()
		same(t, "Shows", pair(warm.Shows(w, s)), pair(m.shows(w.Mark, s), e))
		off := c.off()
		room := 0
		if m.truthful {
			room = m.room(w.Mark, off)
		}
		same(t, "Room", pair(warm.Room(w, off)), pair(room, e))
		offers := c.offers()
		offer, left := 0, 0
		if m.truthful {
			offer, left = m.next(w.Mark, offers)
		}
		same(t, "Next", triple(warm.Next(w, offers)), triple(offer, left, e))
	}
}

// off returns a number that leaves rooms of all kinds.
func (c *chance) off() int { return c.between(0, []int{20, 300, 21000, 30000}[c.below(4)]) }

// TestTrue: P2.9, P2 and P8. If all readings are right, what is told contains what is true, and Room and Next keep their word.
func TestTrue(t *testing.T) {
	c := chance(2)
	for range cases {
		w, is := c.block(false)
		if s, e := warm.Length(w); e != api.OK || !inside(is.length, s) {
			t.Fatalf("%v: the length %d is not told: %v %v", w, is.length, s, e)
		}
		if s, e := warm.Coeff(w); e != api.OK || !inside(is.coeff, s) {
			t.Fatalf("%v: the coefficient %d is not told: %v %v", w, is.coeff, s, e)
		}
		for i, warmth := range is.warmths {
			if s, e := warm.Held(w, i); e != api.OK || !inside(warmth, s) {
				t.Fatalf("%v: the warmth %d is not told: %v %v", w, warmth, s, e)
			}
		}
		trueShows(t, &c, w, is)
		trueRoom(t, c.off(), w, is)
		trueNext(t, c.offers(), w)
		if n, e := warm.Clash(w); e != api.ErrNone {
			t.Fatalf("%v: the readings %b clash", w, n)
		}
	}
}

func trueShows(t *testing.T, c *chance, w api.Warm, is known) {
	t.Helper()
	s := c.warmth()
	told, _ := warm.Shows(w, s)
	for warmth := s.Lo; warmth <= s.Hi; warmth++ {
		if n := modelShows(w.Mark, is.length, is.coeff, warmth); !inside(n, told) {
			t.Fatalf("%v: %d is shown at %d, and not told: %v", w, n, warmth, told)
		}
	}
}

func trueRoom(t *testing.T, off int, w api.Warm, is known) {
	t.Helper()
	room, _ := warm.Room(w, off)
	for warmth := -room; warmth <= room; warmth++ {
		if n := modelShows(w.Mark, is.length, is.coeff, warmth); !inside(n-is.length, span(-off, off)) {
			t.Fatalf("%v: in the room %d it shows %d beside its length", w, room, n-is.length)
		}
	}
}

// trueNext makes the reading that Next tells, with each number, and those of the other offers, too.
func trueNext(t *testing.T, offers []int, w api.Warm) {
	t.Helper()
	// One reading more has to have room.
	w.Readings = w.Readings[:min(len(w.Readings), api.WarmReadings-1)]
	offer, left, _ := warm.Next(w, offers)
	for i, warmth := range offers {
		most := mostLeft(w, warmth)
		if i == offer && most != left || most < left || most == left && i < offer {
			t.Fatalf("%v: the offer %d of %v leaves %d, and %d was told with %d", w, i, offers, most, offer, left)
		}
	}
}

// mostLeft returns the most pairs that are left once any one number was read at a warmth.
func mostLeft(w api.Warm, warmth int) int {
	most := 0
	told, _ := warm.Shows(w, span(warmth, warmth))
	for n := told.Lo; n <= told.Hi; n++ {
		many, _ := warm.Count(more(w, read(warmth, warmth, n, n)))
		most = max(most, many)
	}
	return most
}

// more returns a block with a reading more.
func more(w api.Warm, r api.WarmReading) api.Warm {
	w.Readings = append(slices.Clone(w.Readings), r)
	return w
}

// TestEnds: P2.9. Both ends of each span are those of a truth: with the end alone there still is one.
func TestEnds(t *testing.T) {
	c := chance(3)
	for range cases {
		w, _ := c.block(true)
		w.Readings = w.Readings[:min(len(w.Readings), api.WarmReadings-1)]
		length, e := warm.Length(w)
		if e != api.OK {
			continue
		}
		coeff, _ := warm.Coeff(w)
		for _, n := range []int{length.Lo, length.Hi} {
			x := w
			x.Length = span(n, n)
			truthful(t, x)
		}
		for _, n := range []int{coeff.Lo, coeff.Hi} {
			x := w
			x.Coeff = span(n, n)
			truthful(t, x)
		}
		for i := range w.Readings {
			held, _ := warm.Held(w, i)
			for _, n := range []int{held.Lo, held.Hi} {
				x := w
				x.Readings = slices.Clone(w.Readings)
				x.Readings[i].Warm = span(n, n)
				truthful(t, x)
			}
		}
		lo := c.between(-100, 96)
		shows, _ := warm.Shows(w, span(lo, lo+4))
		truthful(t, more(w, read(lo, lo+4, shows.Lo, shows.Lo)))
		truthful(t, more(w, read(lo, lo+4, shows.Hi, shows.Hi)))
	}
}

func truthful(t *testing.T, w api.Warm) {
	t.Helper()
	if many, e := warm.Count(w); many == 0 || e != api.OK {
		t.Fatalf("%v has no truth: %v", w, e)
	}
}

// narrow returns a block that says no less than another one: with a reading more, or a narrower one.
func (c *chance) narrow(w api.Warm, is known) api.Warm {
	if len(w.Readings) < api.WarmReadings && (len(w.Readings) == 0 || c.below(2) == 0) {
		r, _ := c.reading(w, is, c.below(2) == 0)
		return more(w, r)
	}
	w.Readings = slices.Clone(w.Readings)
	r := &w.Readings[c.below(len(w.Readings))]
	for _, s := range []*api.Span{&r.Warm, &r.Shows} {
		s.Lo = c.between(s.Lo, s.Hi)
		s.Hi = c.between(s.Lo, s.Hi)
	}
	return w
}

// TestMore: P2.9 and P2. With a reading more, or a narrower one, nothing is told less exactly.
func TestMore(t *testing.T) {
	c := chance(4)
	compared := 0
	for range cases {
		w, is := c.block(true)
		narrower := c.narrow(w, is)
		if _, e := warm.Length(w); e != api.OK {
			if _, e := warm.Length(narrower); e != api.ErrClash {
				t.Fatalf("%v has no truth, and %v has one", w, narrower)
			}
			continue
		}
		if _, e := warm.Length(narrower); e != api.OK {
			continue
		}
		compared++
		noWider(t, w, narrower, func(w api.Warm) (api.Span, api.Errno) { return warm.Length(w) })
		noWider(t, w, narrower, func(w api.Warm) (api.Span, api.Errno) { return warm.Coeff(w) })
		warmth := c.warmth()
		noWider(t, w, narrower, func(w api.Warm) (api.Span, api.Errno) { return warm.Shows(w, warmth) })
		for i := range w.Readings {
			noWider(t, w, narrower, func(w api.Warm) (api.Span, api.Errno) { return warm.Held(w, i) })
		}
		off, offers := c.off(), c.offers()
		noMore(t, w, narrower, func(w api.Warm) int { n, _ := warm.Count(w); return n })
		noMore(t, w, narrower, func(w api.Warm) int { _, n, _ := warm.Next(w, offers); return n })
		noMore(t, w, narrower, func(w api.Warm) int { n, _ := warm.Room(w, off); return -n })
	}
	if compared < cases/4 {
		t.Errorf("only %d blocks were compared", compared)
	}
}

func noWider(t *testing.T, w, narrower api.Warm, tell func(api.Warm) (api.Span, api.Errno)) {
	t.Helper()
	a, _ := tell(w)
	b, _ := tell(narrower)
	if b.Lo < a.Lo || b.Hi > a.Hi {
		t.Fatalf("%v: told %v, %v: %v", w, a, narrower, b)
	}
}

func noMore(t *testing.T, w, narrower api.Warm, tell func(api.Warm) int) {
	t.Helper()
	if a, b := tell(w), tell(narrower); b > a {
		t.Fatalf("%v: told %d, %v: %d", w, a, narrower, b)
	}
}

// TestRightWarmth: P2.9. At the right warmth a block shows its length, and there is nothing beside it.
func TestRightWarmth(t *testing.T) {
	c := chance(5)
	for range cases {
		w, _ := c.block(true)
		same(t, "Shows", pair(warm.Shows(w, span(0, 0))), pair(warm.Length(w)))
	}
}

// TestOrder: P2.9, P4 and P11. The order of readings changes their numbers alone.
func TestOrder(t *testing.T) {
	c := chance(6)
	for range cases {
		w, _ := c.block(true)
		turned := w
		turned.Readings = slices.Clone(w.Readings)
		slices.Reverse(turned.Readings)
		x := with{off: c.off(), warmth: c.warmth(), offers: c.offers()}
		turnedCalls := calls(x)
		for i, call := range calls(x) {
			if call.name != "Held" && call.name != "Clash" {
				same(t, call.name, turnedCalls[i].do(turned), call.do(w))
			}
		}
		for i := range w.Readings {
			same(t, "Held", pair(warm.Held(turned, len(w.Readings)-1-i)), pair(warm.Held(w, i)))
		}
		a, e := warm.Clash(w)
		b, f := warm.Clash(turned)
		same(t, "Clash", pair(bits.OnesCount(uint(b)), f), pair(bits.OnesCount(uint(a)), e))
		if t.Failed() {
			t.Fatalf("the block is %v", w)
		}
	}
}

// TestFewest: P4. The readings that are told clash alone, and no longer once any one of them is left out.
func TestFewest(t *testing.T) {
	c := chance(7)
	for range cases {
		w, _ := c.block(true)
		set, e := warm.Clash(w)
		if e != api.OK {
			continue
		}
		if many, _ := warm.Count(kept(w, set)); many != 0 {
			t.Fatalf("%v: the readings %b do not clash", w, set)
		}
		for i := range w.Readings {
			if set>>i&1 == 1 {
				truthful(t, kept(w, set&^(1<<i)))
			}
		}
	}
}

// kept returns a block with the readings of a set alone.
func kept(w api.Warm, set int) api.Warm {
	all := w.Readings
	w.Readings = nil
	for i, r := range all {
		if set>>i&1 == 1 {
			w.Readings = append(w.Readings, r)
		}
	}
	return w
}

// TestReplay: P11. The same call returns the same, however often it is made.
func TestReplay(t *testing.T) {
	c := chance(8)
	for range 200 {
		w, _ := c.block(true)
		for _, call := range calls(with{0, c.off(), c.warmth(), c.offers()}) {
			same(t, call.name, call.do(w), call.do(w))
		}
	}
}
