package wear

import "blockworks/api"

// course is what is known of the length at first, and then of that after each event, of all truths. What is behind the last event has no meaning.
type course [api.WearEvents + 1]known

// courseOf returns what is known by all events, also by those that come later.
func courseOf(w api.Wear) course {
	lengths := course{{w.Length}}
	for i, e := range onward(w) {
		lengths[i+1] = e.forward(lengths[i])
	}
	for i, e := range backward(w) {
		lengths[i] = cut(lengths[i], e.back(lengths[i+1]))
	}
	return lengths
}

// possible returns whether there is a truth. If there is none, what cannot be has been led back to the beginning.
func (c course) possible() bool { return c[0].possible() }

// tooShort is the events after which a block is too short, surely or perhaps.
type tooShort struct{ surely, perhaps set }

// below returns the events, of so many, after which the length is below a limit, in the way that a method of it tells.
func (c course) below(limit, events int, is func(known, int) bool) set {
	var found set
	for i := range events {
		if is(c[i+1], limit) {
			found = found.with(i)
		}
	}
	return found
}

// lostBy returns how much a block has lost, of which there has to be a truth. It depends on both ends of its course together, so each length at first is followed alone.
func lostBy(w api.Wear) api.Span {
	var all []api.Span
lengths:
	for length := w.Length.Lo; length <= w.Length.Hi; length++ {
		now := exactly(length)
		for _, e := range onward(w) {
			now = e.forward(now)
			if !now.possible() {
				continue lengths
			}
		}
		all = append(all, api.Span{Lo: length - now.Hi, Hi: length - now.Lo})
	}
	lost := all[0]
	for _, s := range all[1:] {
		lost = join(lost, s)
	}
	return lost
}

// looked is which readings are looked at.
type looked struct{ readings set }

// looking returns a block of which only some readings are looked at. It works on a copy of the events, as they are the caller's.
func looking(w api.Wear, at looked) api.Wear {
	events := make([]api.WearEvent, len(w.Events))
	copy(events, w.Events)
	for i, e := range events {
		if e.Kind == api.WearRead && !at.readings.has(i) {
			// No use at all changes nothing and tells nothing, as a reading that is not looked at.
			events[i] = api.WearEvent{Kind: api.WearUses}
		}
	}
	w.Events = events
	return w
}

// history is a block, and what is known of its lengths by which readings.
type history struct {
	block   api.Wear
	courses map[looked]course
}

func historyOf(w api.Wear) history { return history{w, map[looked]course{}} }

// course returns what is known of lengths if some readings are looked at. It is worked out once for the same ones.
func (h history) course(at looked) course {
	lengths, had := h.courses[at]
	if !had {
		lengths = courseOf(looking(h.block, at))
		h.courses[at] = lengths
	}
	return lengths
}

// fewestClashing returns the fewest readings with which alone there is no truth, and whether there are such.
func fewestClashing(w api.Wear) (set, bool) {
	past := historyOf(w)
	clash := func(readings set) bool { return !past.course(looked{readings}).possible() }
	all := readingsOf(w)
	// With a reading less there is no truth less: if not even all of them clash, none do.
	if !clash(all) {
		return 0, false
	}
	return first(search[set]{fewestFirst(all), clash})
}
