package wear

import "blockworks/api"

// known is what is known of a length: the integers that it can be. If there are none there is no truth.
type known struct{ api.Span }

func exactly(length int) known { return known{api.Span{Lo: length, Hi: length}} }

func (k known) possible() bool { return k.Lo <= k.Hi }

// less returns what is known of a length once so much has been taken off.
func (k known) less(off api.Span) known { return k.moved(api.Span{Lo: -off.Hi, Hi: -off.Lo}) }

// more returns what is known of a length from which so much has yet to be taken off.
func (k known) more(off api.Span) known { return k.moved(off) }

// worn returns what is known of a length after so many uses more, each of which takes off so much. As none depends on another one, all of them can take off the least, or the most.
func (k known) worn(use api.Span, uses int) known { return k.less(many(uses, use)) }

// moved returns what is known of a length that differs by so much. A length that cannot be does not become possible by that.
func (k known) moved(by api.Span) known {
	if !k.possible() {
		return k
	}
	return known{api.Span{Lo: k.Lo + by.Lo, Hi: k.Hi + by.Hi}}
}

func (k known) surelyBelow(limit int) bool { return k.Hi < limit }

func (k known) perhapsBelow(limit int) bool { return k.Lo < limit }

// liesIn returns whether a length is within a span, whatever it is.
func (k known) liesIn(s api.Span) bool { return s.Lo <= k.Lo && k.Hi <= s.Hi }

// meets returns whether a length can be within a span.
func (k known) meets(s api.Span) bool { return cut(k, known{s}).possible() }

// cut returns what is known of a length if all that is told of it is so.
func cut(told known, more ...known) known {
	for _, k := range more {
		told.Lo = max(told.Lo, k.Lo)
		told.Hi = min(told.Hi, k.Hi)
	}
	return told
}

// join returns the least span that contains two of them.
func join(a, b api.Span) api.Span {
	return api.Span{Lo: min(a.Lo, b.Lo), Hi: max(a.Hi, b.Hi)}
}

// many returns what so many spans are together, each of which is the same.
func many(times int, s api.Span) api.Span {
	return api.Span{Lo: times * s.Lo, Hi: times * s.Hi}
}

func total(numbers []int) int {
	all := 0
	for _, n := range numbers {
		all += n
	}
	return all
}

// judge returns whether something is so of a span: never, perhaps, or always.
func judge(s api.Span, always, perhaps func(api.Span) bool) int {
	switch {
	case always(s):
		return api.WearAlways
	case perhaps(s):
		return api.WearPerhaps
	}
	return api.WearNever
}
