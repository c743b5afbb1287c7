package pass

import (
	"iter"

	"blockworks/api"
)

// standard is what stands for the standard where an item is named; it is not wrong.
const standard = -1

// state is an item in a year: how far was it wrong then?
type state struct{ item, year int }

func (s state) isStandard() bool { return s.item == standard }

func (s state) isIn(items int) bool { return isIn(s.item, items) }

// nextItem returns the item after this one, in the same year.
func (s state) nextItem() state { return state{s.item + 1, s.year} }

// nextYear returns the same item, in the year after.
func (s state) nextYear() state { return state{s.item, s.year + 1} }

// isMeasuredBy returns whether a certificate is of the item, and holds in the year.
func (s state) isMeasuredBy(c certificate) bool {
	return c.Of == s.item && isWithin(s.year, c.Year, c.last)
}

// link returns the chain of one certificate alone that holds in the year.
func (s state) link(c certificate) chain {
	return chain{numbers: []int{c.number}, bound: c.Wrong + c.Drift*(s.year-c.Year)}
}

// certificate is a paper, its number, and the last year in which it holds.
type certificate struct {
	api.PassPaper
	number, last int
}

// source returns what the item was measured by, in the year of that.
func (c certificate) source() state { return state{c.By, c.Year} }

func certificatesOf(p api.Pass) iter.Seq[certificate] {
	return func(yield func(certificate) bool) {
		for n, paper := range p.Papers {
			if !yield(certificate{paper, n, paper.Year + p.Age}) {
				return
			}
		}
	}
}

// recalled returns the certificates without one of them. It works on a copy, as they are the caller's.
func recalled(p api.Pass, paper int) api.Pass {
	left := make([]api.PassPaper, len(p.Papers)-1)
	many := copy(left, p.Papers[:paper])
	copy(left[many:], p.Papers[paper+1:])
	p.Papers = left
	return p
}

// renewed returns the certificates, and those of a set once more, written in a year. It works on a copy, as they are the caller's.
func renewed(p api.Pass, set, year int) api.Pass {
	all := make([]api.PassPaper, len(p.Papers))
	copy(all, p.Papers)
	for n, paper := range p.Papers {
		if isIn(n, set) {
			paper.Year = year
			all = append(all, paper)
		}
	}
	p.Papers = all
	return p
}
