package pass_test

import (
	"math"
	"reflect"
	"slices"
	"testing"

	"blockworks/api"
	"blockworks/pass"
)

// asked is what functions are asked beside certificates: an item, a set of them, a certificate, a year, and a limit.
type asked struct{ item, items, paper, year, limit int }

// call is one call of a function of the package, as the list of all its results.
type call struct {
	name string
	do   func(p api.Pass) []any
}

func calls(a asked) []call {
	list := func(results ...any) []any { return results }
	return []call{
		{"Bound", func(p api.Pass) []any { n, e := pass.Bound(p, a.item, a.year); return list(n, e) }},
		{"Chain", func(p api.Pass) []any { x, e := pass.Chain(p, a.item, a.year); return list(x, e) }},
		{"Known", func(p api.Pass) []any { n, e := pass.Known(p, a.year); return list(n, e) }},
		{"Until", func(p api.Pass) []any { n, e := pass.Until(p, a.item, a.year, a.limit); return list(n, e) }},
		{"Together", func(p api.Pass) []any { n, e := pass.Together(p, a.items, a.year); return list(n, e) }},
		{"Recall", func(p api.Pass) []any { n, m, e := pass.Recall(p, a.paper, a.year); return list(n, m, e) }},
		{"Renew", func(p api.Pass) []any { n, e := pass.Renew(p, a.year, a.limit); return list(n, e) }},
	}
}

func errorOf(results []any) any { return results[len(results)-1] }

// wantError fails unless a call returns the error, and zero values beside it (R2).
func wantError(t *testing.T, c call, p api.Pass, e api.Errno) {
	t.Helper()
	results := c.do(p)
	for _, result := range results[:len(results)-1] {
		if v := reflect.ValueOf(result); !v.IsZero() && !(v.Kind() == reflect.Slice && v.Len() == 0) {
			t.Errorf("%s of %v: result %v beside an error", c.name, p, result)
		}
	}
	if errorOf(results) != e {
		t.Errorf("%s of %v: error %v, want %v", c.name, p, errorOf(results), e)
	}
}

// want fails unless the functions of some names return the error, and the other ones do not.
func want(t *testing.T, names []string, a asked, p api.Pass, e api.Errno) {
	t.Helper()
	for _, c := range calls(a) {
		if slices.Contains(names, c.name) {
			wantError(t, c, p, e)
		} else if got := errorOf(c.do(p)); got == e {
			t.Errorf("%s of %v, asked %v: error %v", c.name, p, a, got)
		}
	}
}

// beside are numbers just beside a span, and far from it.
func beside(lo, hi int) []int {
	return []int{math.MinInt, lo - 100, lo - 2, lo - 1, hi + 1, hi + 2, hi + 100, math.MaxInt}
}

// changes are ways to change the certificates P; each one alone is enough to make them invalid.
func changes() []func(p *api.Pass) {
	list := []func(p *api.Pass){
		func(p *api.Pass) { *p = api.Pass{} },
		func(p *api.Pass) { p.Items, p.Papers = 0, nil },
		func(p *api.Pass) { p.Papers = slices.Repeat(p.Papers[:3], 3) },
		func(p *api.Pass) { p.Papers = slices.Repeat(p.Papers, 100000) },
		// There no longer is an item that was measured, or by which one was.
		func(p *api.Pass) { p.Items = 2 },
		func(p *api.Pass) { p.Items = 1 },
		func(p *api.Pass) { p.Papers, p.Items = []api.PassPaper{paper(0, 1, 0, 0, 0)}, 1 },
	}
	for _, n := range beside(1, 6) {
		list = append(list, func(p *api.Pass) { p.Items = n }, func(p *api.Pass) { p.Items, p.Papers = n, nil })
	}
	for _, n := range beside(0, 20) {
		list = append(list, func(p *api.Pass) { p.Age = n }, func(p *api.Pass) { p.Age, p.Papers = n, nil })
	}
	for at := range 4 {
		for _, bad := range badPapers() {
			list = append(list, func(p *api.Pass) { p.Papers[at] = bad })
		}
	}
	for _, bad := range badPapers() {
		list = append(list, func(p *api.Pass) { p.Papers = []api.PassPaper{bad} })
	}
	return list
}

// badPapers are certificates that are not valid of three items.
func badPapers() []api.PassPaper {
	list := []api.PassPaper{paper(0, 0, 1, 1, 1), paper(1, 1, 1, 1, 1), paper(2, 2, 1, 1, 1), paper(-1, -1, 1, 1, 1), paper(-1, 0, 1, 1, 1)}
	for _, n := range beside(0, 2) {
		list = append(list, paper(n, standard, 1, 1, 1), paper(n, 0, 1, 1, 1))
	}
	for _, n := range beside(standard, 2) {
		list = append(list, paper(0, n, 1, 1, 1))
	}
	for _, n := range beside(0, 50) {
		list = append(list, paper(0, standard, n, 1, 1))
	}
	for _, n := range beside(0, 20) {
		list = append(list, paper(0, standard, 1, n, 1))
	}
	for _, n := range beside(0, 10) {
		list = append(list, paper(0, standard, 1, 1, n))
	}
	return list
}

// TestInvalid: the section Errors, R1, R2 and R8. Certificates that are not valid come before all other errors, whichever of them is not.
func TestInvalid(t *testing.T) {
	for _, change := range changes() {
		p := passP()
		change(&p)
		for _, a := range []asked{{}, {1, 3, 1, 4, 9}, {0, 0, 0, 20, 0}, {-1, -1, -1, -1, -1}, {6, 64, 8, 21, 2001}, {math.MinInt, math.MaxInt, math.MinInt, math.MaxInt, math.MinInt}, {math.MaxInt, math.MinInt, math.MaxInt, math.MinInt, math.MaxInt}} {
			for _, c := range calls(a) {
				wantError(t, c, p, api.ErrArg)
			}
		}
	}
}

// TestRange: the section Errors. What is out of range comes before there is none; what a function does not take makes no difference.
func TestRange(t *testing.T) {
	six := made(6, 20, slices.Repeat([]api.PassPaper{paper(0, standard, 0, 0, 0)}, 8)...)
	empty := made(1, 0)
	for _, p := range []api.Pass{passP(), six, empty} {
		fine := asked{0, 0, min(0, len(p.Papers)-1), 0, 0}
		if len(p.Papers) > 0 {
			want(t, nil, fine, p, api.ErrRange)
			want(t, nil, asked{p.Items - 1, 1<<p.Items - 1, len(p.Papers) - 1, 20, 2000}, p, api.ErrRange)
		}
		noPaper := []string{"Recall"}
		if len(p.Papers) > 0 {
			noPaper = nil
		}
		for _, n := range beside(0, p.Items-1) {
			a := fine
			a.item = n
			want(t, append([]string{"Bound", "Chain", "Until"}, noPaper...), a, p, api.ErrRange)
		}
		for _, n := range beside(0, 1<<p.Items-1) {
			a := fine
			a.items = n
			want(t, append([]string{"Together"}, noPaper...), a, p, api.ErrRange)
		}
		for _, n := range append(beside(0, len(p.Papers)-1), 8, 9) {
			a := fine
			a.paper = n
			want(t, []string{"Recall"}, a, p, api.ErrRange)
		}
		for _, n := range beside(0, 20) {
			a := fine
			a.year = n
			want(t, []string{"Bound", "Chain", "Known", "Until", "Together", "Recall", "Renew"}, a, p, api.ErrRange)
		}
		for _, n := range beside(0, 2000) {
			a := fine
			a.limit = n
			want(t, append([]string{"Until", "Renew"}, noPaper...), a, p, api.ErrRange)
		}
	}
}

// TestNone: the section Errors. An item without a bound has none; sets are told also if they are empty.
func TestNone(t *testing.T) {
	p := passP()
	want(t, []string{"Bound", "Chain", "Until", "Together", "Renew"}, asked{0, 1, 0, 7, 1}, p, api.ErrNone)
	want(t, []string{"Bound", "Chain", "Until", "Together"}, asked{1, 2, 1, 2, 2000}, p, api.ErrNone)
	want(t, []string{"Until", "Renew"}, asked{2, 4, 2, 4, 5}, p, api.ErrNone)
	want(t, nil, asked{2, 0, 2, 4, 10}, p, api.ErrNone)
	want(t, []string{"Bound", "Chain", "Until", "Together", "Renew"}, asked{0, 1, 0, 0, 2000}, made(1, 0), api.ErrNone)
	same(t, "Known", two(pass.Known(made(6, 20), 20)), number(0))
	same(t, "Together", two(pass.Together(made(6, 20), 0, 20)), number(0))
	same(t, "Recall", three(pass.Recall(p, 0, 10)), sets(0, 0))
}

// TestLimits: R7. What just keeps to each limit is valid.
func TestLimits(t *testing.T) {
	for _, items := range []int{1, 6} {
		for _, age := range []int{0, 20} {
			for _, many := range []int{0, 1, 8} {
				for _, year := range []int{0, 20} {
					one := paper(items-1, standard, 50, year, 10)
					compareAll(t, made(items, age, slices.Repeat([]api.PassPaper{one}, many)...))
					one = paper(0, items-2, 0, year, 0)
					compareAll(t, made(items, age, append(slices.Repeat([]api.PassPaper{one}, max(0, many-1)), paper(items-1, standard, 0, 0, 0))...))
				}
			}
		}
	}
	same(t, "the limits", []int{api.PassItems, api.PassPapers, api.PassWrong, api.PassDrift, api.PassYears, api.PassBound}, []int{6, 8, 50, 10, 20, 2000})
}

// compareAll fails unless what is told of certificates is as the model tells it, in the first year and in the last one.
func compareAll(t *testing.T, p api.Pass) {
	t.Helper()
	for _, year := range []int{0, api.PassYears} {
		for _, item := range []int{0, p.Items - 1} {
			same(t, "Bound", two(pass.Bound(p, item, year)), boundOrNone(p, item, year))
			same(t, "Chain", row(pass.Chain(p, item, year)), chainOrNone(p, item, year))
			for _, limit := range []int{0, 2000} {
				same(t, "Until", two(pass.Until(p, item, year, limit)), until(p, item, year, limit))
			}
		}
		same(t, "Known", two(pass.Known(p, year)), number(known(p, year)))
		for _, set := range []int{0, 1, 1<<p.Items - 1} {
			same(t, "Together", two(pass.Together(p, set, year)), together(p, set, year))
		}
		if last := len(p.Papers) - 1; last >= 0 {
			same(t, "Recall", three(pass.Recall(p, last, year)), recall(p, last, year))
		}
		for _, limit := range []int{0, 49, 50, 2000} {
			same(t, "Renew", two(pass.Renew(p, year, limit)), renew(p, year, limit))
		}
	}
	if t.Failed() {
		t.Fatalf("the certificates are %v", p)
	}
}

// TestNilAndEmpty: R3. No certificates are the same, however they are written.
func TestNilAndEmpty(t *testing.T) {
	a, b := made(2, 3), made(2, 3)
	a.Papers, b.Papers = nil, []api.PassPaper{}
	for i, c := range calls(asked{1, 1, 0, 9, 4}) {
		same(t, c.name, calls(asked{1, 1, 0, 9, 4})[i].do(b), c.do(a))
	}
}

// TestMemory: P10.8 and R4. No argument is changed, also behind its end, and no result shares memory with another one.
func TestMemory(t *testing.T) {
	p := passP()
	p.Papers = append(p.Papers, paper(0, standard, 9, 4, 0), paper(1, standard, 1, 2, 1), paper(2, 0, 0, 4, 1), paper(0, standard, 1, 2, 3))
	before := clone(p)
	for many := range len(p.Papers) + 1 {
		v := p
		v.Papers = p.Papers[:many]
		for paper := range many {
			for _, limit := range []int{0, 6, 12, 2000} {
				for _, c := range calls(asked{many % 3, 7, paper, 3 + many%3, limit}) {
					c.do(v)
				}
			}
		}
	}
	same(t, "the certificates", p, before)
	first, _ := pass.Chain(passP(), 2, 4)
	second, _ := pass.Chain(passP(), 2, 4)
	clear(first[:cap(first)])
	same(t, "the second result", row(second, api.OK), list(2, 1, 0))
	same(t, "the third result", row(pass.Chain(passP(), 2, 4)), list(2, 1, 0))
}
