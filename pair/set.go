package pair

import (
	"iter"
	"math/bits"
	"slices"

	"blockworks/api"
)

// set is a set of blocks, or of readings: its bit n is set just if n is in it.
type set int

func (s set) has(n int) bool { return s>>n&1 == 1 }

func (s set) size() int { return bits.OnesCount(uint(s)) }

// fullSet returns the set of the first so many numbers.
func fullSet(many int) set { return 1<<many - 1 }

// those returns the set of the first so many numbers of which something is so.
func those(many int, so func(n int) bool) set {
	var found set
	for n := range many {
		if so(n) {
			found |= 1 << n
		}
	}
	return found
}

// setsBySize returns all sets of the first so many numbers: smaller sets first, and of equal ones the lesser number.
func setsBySize(many int) iter.Seq[set] {
	return func(yield func(set) bool) {
		for size := range many + 1 {
			for s := set(0); s <= fullSet(many); s++ {
				if s.size() == size && !yield(s) {
					return
				}
			}
		}
	}
}

// fewest returns the first set of readings by size that suits. If no other one does the set of all has to.
func fewest(reads int, suits func(set) bool) set {
	for s := range setsBySize(reads) {
		if suits(s) {
			return s
		}
	}
	return fullSet(reads)
}

// fewestWrong returns the fewest readings without which there is a truth. Without any reading there always is one.
func fewestWrong(p api.Pair) set {
	return fewest(len(p.Reads), func(out set) bool { return agree(without(p, out)) })
}

// fewestClashing returns the fewest readings with which alone there is no truth; if there is one with all of them it panics.
func fewestClashing(p api.Pair) set {
	if agree(p) {
		panic(api.ErrNone)
	}
	all := fullSet(len(p.Reads))
	return fewest(len(p.Reads), func(kept set) bool { return !agree(without(p, all&^kept)) })
}

// without returns a pair without some of its readings. It works on a copy of them, because Delete moves what it keeps.
func without(p api.Pair, out set) api.Pair {
	kept := make([]api.PairRead, len(p.Reads))
	copy(kept, p.Reads)
	for i := len(p.Reads) - 1; i >= 0; i-- {
		if out.has(i) {
			kept = slices.Delete(kept, i, i+1)
		}
	}
	p.Reads = kept
	return p
}
