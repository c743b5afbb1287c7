package stack

import (
	"iter"

	"blockworks/api"
)

// stack is a set of blocks that are wrung together: its bit n is set just if the block n is in it. The number 0 is no stack.
type stack int

func (s stack) has(block int) bool { return s>>block&1 == 1 }

func (s stack) with(block int) stack { return s | 1<<block }

func (s stack) isOne() bool { return s != 0 }

// long is how long a stack is, and of how many blocks it is.
type long struct {
	api.Span
	blocks int
}

// with returns how long a stack is with a block more. Only between two blocks there is a film.
func (l long) with(block, film api.Span) long {
	if l.blocks > 0 {
		block = add(block, film)
	}
	return long{add(l.Span, block), l.blocks + 1}
}

// add returns what two spans are together: as neither depends on the other one, both ends can be so at the same time.
func add(a, b api.Span) api.Span {
	return api.Span{Lo: a.Lo + b.Lo, Hi: a.Hi + b.Hi}
}

// longOf returns how long a stack of a set of blocks is.
func longOf(set api.Stack, blocks stack) long {
	var all long
	for block := range chosen(set.Blocks, blocks.has) {
		all = all.with(block, set.Film)
	}
	return all
}

// chosen returns the blocks that a stack has.
func chosen(blocks []api.Span, has func(block int) bool) iter.Seq[api.Span] {
	return func(yield func(api.Span) bool) {
		for i, block := range blocks {
			if has(i) && !yield(block) {
				return
			}
		}
	}
}

// lengths is which stacks are how long. Neither the lengths nor the stacks of one have an order, so they are asked only for what no order changes.
type lengths map[long][]stack

// lengthsOf returns how long all stacks of a set of blocks are.
func lengthsOf(set api.Stack) lengths {
	all := lengths{long{}: {0}}
	for i, block := range set.Blocks {
		// Each block is left out of all stacks that there are, or put to them.
		grown := lengths{}
		for had, stacks := range all {
			longer := had.with(block, set.Film)
			for _, without := range stacks {
				grown[had] = append(grown[had], without)
				grown[longer] = append(grown[longer], without.with(i))
			}
		}
		all = grown
	}
	delete(all, long{})
	return all
}

// stacks returns all stacks, each with how long it is.
func (all lengths) stacks() iter.Seq2[long, stack] {
	return func(yield func(long, stack) bool) {
		for length, stacks := range all {
			for _, one := range stacks {
				if !yield(length, one) {
					return
				}
			}
		}
	}
}

// meeting returns the stacks whose length does not miss what is asked.
func (all lengths) meeting(ask question) iter.Seq[stack] {
	return func(yield func(stack) bool) {
		for length, one := range all.stacks() {
			if ask.miss(length.Span) == 0 && !yield(one) {
				return
			}
		}
	}
}
