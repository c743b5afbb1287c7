package stack

import "blockworks/api"

// question is what is asked of the length of a stack.
type question interface {
	// miss returns by how much a length is outside of what is wanted; 0 if it is not.
	miss(length api.Span) int
}

// surely asks by how much a length is outside at most, so that with 0 it is right in each truth.
type surely struct{ api.Span }

func (s surely) miss(length api.Span) int {
	return max(s.Lo-length.Lo, length.Hi-s.Hi, 0)
}

// perhaps asks by how much a length is outside at least, so that with 0 it is right in some truth.
type perhaps struct{ api.Span }

func (p perhaps) miss(length api.Span) int {
	return max(p.Lo-length.Hi, length.Lo-p.Hi, 0)
}

// right returns whether a length is right for a want: never, perhaps, or always.
func right(length, want api.Span) int {
	switch {
	case surely{want}.miss(length) == 0:
		return api.StackAlways
	case perhaps{want}.miss(length) == 0:
		return api.StackPerhaps
	}
	return api.StackNever
}

// counted is how many stacks are right in each truth, and how many in some.
type counted struct{ surely, perhaps int }

func countOf(all lengths, want api.Span) counted {
	return counted{manyMeeting(all, surely{want}), manyMeeting(all, perhaps{want})}
}

func manyMeeting(all lengths, ask question) int {
	many := 0
	for range all.meeting(ask) {
		many++
	}
	return many
}

// needed is the blocks that each of several stacks has, and those that some of them have.
type needed struct{ each, some stack }

// neededOf returns which blocks stacks have, of which there has to be one.
func neededOf(stacks []stack) needed {
	return needed{
		each: together(func(a, b stack) stack { return a & b }, stacks...),
		some: together(func(a, b stack) stack { return a | b }, stacks...),
	}
}

// together cuts or joins sets, one after the other; there has to be one.
func together(put func(a, b stack) stack, sets ...stack) stack {
	all := sets[0]
	for _, set := range sets[1:] {
		all = put(all, set)
	}
	return all
}

// firstGap returns the first length of a range which each stack can be off by more than off; if there is none it panics.
func firstGap(all lengths, from, to, off int) int {
next:
	for length := from; length <= to; length++ {
		ask := surely{exactly(length)}
		for made := range all.stacks() {
			if ask.miss(made.Span) <= off {
				continue next
			}
		}
		return length
	}
	panic(api.ErrNone)
}
