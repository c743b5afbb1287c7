package fringe_test

import (
	"math/bits"
	"slices"
	"testing"

	"blockworks/api"
	"blockworks/fringe"
)

// cases is how many fringes each of these tests goes through.
const cases = 1500

// TestModel: P1.1 to P1.8, of many fringes.
func TestModel(t *testing.T) {
	c := chance(1)
	truthful := 0
	for range cases {
		f, _ := c.fringe()
		m := modelOf(f)
		e, clash := api.OK, api.ErrNone
		if m.truthful {
			truthful++
		} else {
			e, clash = api.ErrClash, api.OK
		}
		same(t, "Lengths", lists(fringe.Lengths(f)), lists(m.spans, e))
		same(t, "Count", pair(fringe.Count(f)), pair(len(m.truths), api.OK))
		same(t, "Period", pair(fringe.Period(f)), pair(m.period, api.OK))
		same(t, "Ask", triple(fringe.Ask(f)), triple(m.askColour, m.asked, e))
		same(t, "Wrong", triple(fringe.Wrong(f)), triple(m.wrongMany, m.wrong, api.OK))
		same(t, "Clash", pair(fringe.Clash(f)), pair(m.clash, clash))
		for colour := range f.Waves {
			same(t, "Whole", lists(fringe.Whole(f, colour)), lists(m.wholes[colour], e))
			same(t, "Parts", pair(fringe.Parts(f, colour)), pair(m.parts[colour], e))
		}
		for range 5 {
			wish := c.between(0, 2000)
			same(t, "Near", pair(fringe.Near(f, wish)), pair(modelNear(m.truths, wish), e))
		}
		if t.Failed() {
			t.Fatalf("the fringe is %v", f)
		}
	}
	if truthful < cases/4 || truthful > cases*3/4 {
		t.Errorf("%d of %d fringes have a truth: too many are of one kind", truthful, cases)
	}
}

func modelNear(truths []int, wish int) int {
	best := 0
	for i, length := range truths {
		if i == 0 || max(length-wish, wish-length) < max(best-wish, wish-best) {
			best = length
		}
	}
	return best
}

// told is the set of all lengths that are told of a fringe.
func told(f api.Fringe) map[int]bool {
	lengths := map[int]bool{}
	spans, _ := fringe.Lengths(f)
	for _, s := range spans {
		for n := s.Lo; n <= s.Hi; n++ {
			lengths[n] = true
		}
	}
	return lengths
}

// TestTrue: P1.9, P2 and P3. If all readings are right, what is told contains what is true, and Ask keeps its word.
func TestTrue(t *testing.T) {
	c := chance(2)
	for range cases {
		f, length := c.fringe()
		f.Reads = slices.DeleteFunc(f.Reads, func(r api.FringeRead) bool { return !modelRight(f, r, length) })
		// One reading more is tried below, and has to have room.
		f.Reads = f.Reads[:min(len(f.Reads), api.FringeReads-1)]
		if !told(f)[length] {
			t.Fatalf("%v: the length %d is not told", f, length)
		}
		for colour := range f.Waves {
			whole, part, _ := fringe.Part(f, length, colour)
			wholes, _ := fringe.Whole(f, colour)
			parts, _ := fringe.Parts(f, colour)
			if !slices.Contains(wholes, whole) || parts>>part&1 == 0 {
				t.Fatalf("%v: the fringes %d and the part %d of %d are not told", f, whole, part, length)
			}
		}
		colour, left, _ := fringe.Ask(f)
		if most := mostLeft(f, colour); most != left {
			t.Fatalf("%v: a part of the colour %d leaves %d lengths, not %d", f, colour, most, left)
		}
		for other := range f.Waves {
			if most := mostLeft(f, other); most < left || most == left && other < colour {
				t.Fatalf("%v: the colour %d leaves %d lengths, and %d was told", f, other, most, colour)
			}
		}
	}
}

// mostLeft returns the most lengths that are left once any one part was read in a colour.
func mostLeft(f api.Fringe, colour int) int {
	most := 0
	for part := range 20 {
		more := f
		more.Reads = append(slices.Clone(f.Reads), read(colour, part, part))
		most = max(most, len(told(more)))
	}
	return most
}

// TestEachTold: P1.9. Each length that is told is that of a truth, and the period leaves all parts as they are.
func TestEachTold(t *testing.T) {
	c := chance(3)
	for range cases {
		f, length := c.fringe()
		for n := range told(f) {
			for _, r := range f.Reads {
				if n < f.Length.Lo || n > f.Length.Hi || !modelRight(f, r, n) {
					t.Fatalf("%v: %d is told", f, n)
				}
			}
		}
		period, _ := fringe.Period(f)
		for colour := range f.Waves {
			_, a, _ := fringe.Part(f, length, colour)
			_, b, e := fringe.Part(f, length+period, colour)
			if e == api.OK && a != b {
				t.Fatalf("%v: the parts of %d and of %d more differ", f, length, period)
			}
		}
	}
}

// narrow returns a fringe that says no less than another one: a reading more, a narrower one, or a narrower Length.
func (c *chance) narrow(f api.Fringe) (narrower api.Fringe, more bool) {
	f.Reads = slices.Clone(f.Reads)
	switch kind := c.below(3); {
	case kind == 0 && len(f.Reads) < api.FringeReads:
		f.Reads = append(f.Reads, c.reading(f, f.Length.Lo, true))
		return f, true
	case kind == 1 && len(f.Reads) > 0:
		p := &f.Reads[c.below(len(f.Reads))].Part
		hi := c.between(p.Lo, p.Hi)
		lo := c.between(p.Lo, hi)
		// A Part begins below 20, so one that is wholly above is told from 0 on again.
		*p = span(lo%20, hi-lo+lo%20)
	default:
		f.Length.Lo = c.between(f.Length.Lo, f.Length.Hi)
		f.Length.Hi = c.between(f.Length.Lo, f.Length.Hi)
	}
	return f, false
}

// TestMore: P1.10 and P2. What says more never leaves more, and never makes fewer readings wrong.
func TestMore(t *testing.T) {
	c := chance(4)
	for range cases {
		f, _ := c.fringe()
		narrower, more := c.narrow(f)
		all := told(f)
		for length := range told(narrower) {
			if !all[length] {
				t.Fatalf("%v leaves %d, and %v does not", narrower, length, f)
			}
		}
		for colour := range f.Waves {
			subset(t, f, narrower, colour)
		}
		before, _, _ := fringe.Wrong(f)
		after, _, _ := fringe.Wrong(narrower)
		if after < before || more && after > before+1 {
			t.Fatalf("%v: %d wrong, %v: %d", f, before, narrower, after)
		}
	}
}

func subset(t *testing.T, f, narrower api.Fringe, colour int) {
	t.Helper()
	wholes, _ := fringe.Whole(f, colour)
	fewer, _ := fringe.Whole(narrower, colour)
	for _, w := range fewer {
		if !slices.Contains(wholes, w) {
			t.Fatalf("%v has %d whole fringes, and %v has not", narrower, w, f)
		}
	}
	parts, _ := fringe.Parts(f, colour)
	less, _ := fringe.Parts(narrower, colour)
	if less&^parts != 0 {
		t.Fatalf("%v has the parts %b, and %v %b", narrower, less, f, parts)
	}
}

// turned returns a fringe with its readings turned about by one.
func turned(f api.Fringe) api.Fringe {
	if len(f.Reads) > 1 {
		f.Reads = append(slices.Clone(f.Reads[1:]), f.Reads[0])
	}
	return f
}

// recoloured returns a fringe with its colours in the opposite order.
func recoloured(f api.Fringe) api.Fringe {
	f.Waves, f.Reads = slices.Clone(f.Waves), slices.Clone(f.Reads)
	slices.Reverse(f.Waves)
	for i := range f.Reads {
		f.Reads[i].Colour = len(f.Waves) - 1 - f.Reads[i].Colour
	}
	return f
}

// TestOrder: P1.10, P4 and P11. The order of readings and of colours changes their numbers alone.
func TestOrder(t *testing.T) {
	c := chance(5)
	for range cases {
		f, _ := c.fringe()
		g, h := turned(f), recoloured(f)
		for _, other := range []api.Fringe{g, h} {
			same(t, "Lengths", lists(fringe.Lengths(other)), lists(fringe.Lengths(f)))
			same(t, "Period", pair(fringe.Period(other)), pair(fringe.Period(f)))
			_, a, _ := fringe.Ask(f)
			_, b, _ := fringe.Ask(other)
			same(t, "Ask", b, a)
			many, _, _ := fringe.Wrong(f)
			alike, out, _ := fringe.Wrong(other)
			same(t, "Wrong", alike, many)
			same(t, "Wrong", bits.OnesCount(uint(out)), many)
		}
		same(t, "Wrong", triple(fringe.Wrong(h)), triple(fringe.Wrong(f)))
		same(t, "Clash", pair(fringe.Clash(h)), pair(fringe.Clash(f)))
		s, _ := fringe.Clash(f)
		r, _ := fringe.Clash(g)
		same(t, "Clash", bits.OnesCount(uint(r)), bits.OnesCount(uint(s)))
		for colour := range f.Waves {
			back := len(f.Waves) - 1 - colour
			same(t, "Whole", lists(fringe.Whole(g, colour)), lists(fringe.Whole(f, colour)))
			same(t, "Parts", pair(fringe.Parts(g, colour)), pair(fringe.Parts(f, colour)))
			same(t, "Whole", lists(fringe.Whole(h, back)), lists(fringe.Whole(f, colour)))
			same(t, "Parts", pair(fringe.Parts(h, back)), pair(fringe.Parts(f, colour)))
		}
		if t.Failed() {
			t.Fatalf("the fringe is %v", f)
		}
	}
}

// TestReplay: P11. The same call returns the same, however often it is made.
func TestReplay(t *testing.T) {
	c := chance(6)
	for range 200 {
		f, length := c.fringe()
		for _, call := range calls(length, 0) {
			same(t, call.name, call.do(f), call.do(f))
		}
	}
}
