package pass_test

import (
	"math/bits"
	"slices"
	"testing"

	"blockworks/api"
	"blockworks/pass"
)

// cases is how many certificates each of these tests goes through.
const cases = 200

// years are all years that can be asked for.
func years() []int {
	var list []int
	for year := range api.PassYears + 1 {
		list = append(list, year)
	}
	return list
}

// some returns a few years, most of them early ones, in which more certificates hold.
func (c *chance) some(many int) []int {
	var list []int
	for range many {
		list = append(list, c.between(0, c.one(3, 8, 20)))
	}
	return list
}

// boundOf returns the bound that is told, and unbounded if none is.
func boundOf(p api.Pass, item, year int) int {
	n, e := pass.Bound(p, item, year)
	if e != api.OK {
		return unbounded
	}
	return n
}

// TestModel: P10.1 to P10.7, of many certificates.
func TestModel(t *testing.T) {
	c := chance(1)
	var bounds, lengths [10]int
	for range cases {
		p := c.pass()
		for _, year := range years() {
			for item := range p.Items {
				chain := chainOrNone(p, item, year)
				same(t, "Chain", row(pass.Chain(p, item, year)), chain)
				same(t, "Bound", two(pass.Bound(p, item, year)), boundOrNone(p, item, year))
				lengths[len(chain[0].([]int))]++
			}
			same(t, "Known", two(pass.Known(p, year)), number(known(p, year)))
		}
		compareLimits(t, &c, p, &bounds)
		if t.Failed() {
			t.Fatalf("the certificates are %v", p)
		}
	}
	if lengths[1] < cases || lengths[2] < cases || lengths[3] < cases/2 || lengths[4] < cases/8 {
		t.Errorf("of chains by their length there are %v: too many are short", lengths)
	}
	if bounds[0] < cases/8 || bounds[1] < cases/8 || bounds[2] < cases/8 || bounds[3] < cases/16 {
		t.Errorf("of sets that are renewed by how many they are there are %v: too many are small", bounds)
	}
}

// compareLimits compares what depends on a limit, a set or a certificate, and counts how many certificates are renewed.
func compareLimits(t *testing.T, c *chance, p api.Pass, many *[10]int) {
	t.Helper()
	for _, year := range c.some(6) {
		item, limit := c.below(p.Items), c.between(0, c.one(3, 10, 40, 2000))
		same(t, "Until", two(pass.Until(p, item, year, limit)), until(p, item, year, limit))
		set := c.below(1 << p.Items)
		same(t, "Together", two(pass.Together(p, set, year)), together(p, set, year))
		set &= known(p, year)
		same(t, "Together", two(pass.Together(p, set, year)), together(p, set, year))
		for n := range p.Papers {
			same(t, "Recall", three(pass.Recall(p, n, year)), recall(p, n, year))
		}
		told := two(pass.Renew(p, year, limit))
		same(t, "Renew", told, renew(p, year, limit))
		if told[1] == api.OK {
			many[bits.OnesCount(uint(told[0].(int)))]++
		}
	}
}

// TestRenewed: P10.7. What is told of all certificates once those of the set are renewed, and what of fewer ones.
func TestRenewed(t *testing.T) {
	c := chance(2)
	found := 0
	for range cases {
		p := c.pass()
		p.Papers = p.Papers[:min(4, len(p.Papers))]
		year, limit := c.between(0, 8), c.between(0, c.one(5, 20, 60))
		enough := func(set int) bool {
			q, fine := renewing(p, set, year), true
			for item := range p.Items {
				fine = fine && boundOf(q, item, year) <= limit
			}
			return fine
		}
		told, e := pass.Renew(p, year, limit)
		if e == api.OK {
			found++
		}
		if (e == api.OK) != enough(1<<len(p.Papers)-1) || e == api.OK && !enough(told) {
			t.Fatalf("%v: renewed in %d for %d are %d, %v", p, year, limit, told, e)
		}
		for set := range 1 << len(p.Papers) {
			a, b := bits.OnesCount(uint(set)), bits.OnesCount(uint(told))
			if e == api.OK && enough(set) && (a < b || a == b && set < told) {
				t.Fatalf("%v: renewed in %d for %d are %d, and %d would do", p, year, limit, told, set)
			}
		}
	}
	if found < cases/8 {
		t.Errorf("only %d can be renewed", found)
	}
}

// TestTrue: P9 and P2. However wrong items truly are from year to year, and whatever certificates are true of them: none is told to be less wrong.
func TestTrue(t *testing.T) {
	c := chance(3)
	told, just := 0, 0
	for range cases * 8 {
		is := c.truth()
		p := c.certified(is)
		for _, year := range years() {
			sum := 0
			for item := range p.Items {
				wrong, most := is.wrong(item, year), boundOf(p, item, year)
				if wrong > most {
					t.Fatalf("%v: %d is wrong by %d in %d, and told is %d", p, item, wrong, year, most)
				}
				if most < unbounded {
					told++
					sum += wrong
				}
				if wrong == most {
					just++
				}
			}
			set, _ := pass.Known(p, year)
			if all, e := pass.Together(p, set, year); e != api.OK || all < sum {
				t.Fatalf("%v: all that are known are wrong by %d in %d, and told is %d, %v", p, sum, year, all, e)
			}
		}
		item, year, limit := c.below(p.Items), c.between(0, 8), c.between(0, 30)
		last, e := pass.Until(p, item, year, limit)
		for y := year; e == api.OK && y <= last; y++ {
			if is.wrong(item, y) > limit {
				t.Fatalf("%v: %d is wrong by %d in %d, and up to %d told to be so by %d", p, item, is.wrong(item, y), y, last, limit)
			}
		}
	}
	if told < cases*8 || just < cases {
		t.Errorf("of %d bounds that are told, %d items are just as wrong", told, just)
	}
}

// TestEach: P10.9. No bound is greater than what any chain adds, and what is told is what the certificates of its chain add, which is one.
func TestEach(t *testing.T) {
	c := chance(4)
	many := 0
	for range cases {
		p := c.pass()
		for _, year := range years() {
			for item := range p.Items {
				all := chains(p, item, year)
				n, e := pass.Bound(p, item, year)
				chain, f := pass.Chain(p, item, year)
				if e != f || (e == api.OK) != (len(all) > 0) {
					t.Fatalf("%v: %d in %d: %v, %v, of %v", p, item, year, e, f, all)
				}
				if e == api.OK && (!isChain(p, chain, item, year) || added(p, chain, year) != n) {
					t.Fatalf("%v: %d in %d is wrong by %d, and the chain is %v", p, item, year, n, chain)
				}
				for _, one := range all {
					if sum := added(p, one, year); sum < n || sum == n && len(one) < len(chain) || sum == n && len(one) == len(chain) && slices.Compare(one, chain) < 0 {
						t.Fatalf("%v: %d in %d is wrong by %d by %v, and not by %v", p, item, year, n, chain, one)
					}
				}
				many = max(many, len(all))
			}
		}
	}
	if many < 10 {
		t.Errorf("there are at most %d chains", many)
	}
}

// TestAsWrong: P10.9. Items that are just as wrong as is told make all certificates true, so that no less can be told.
func TestAsWrong(t *testing.T) {
	c := chance(5)
	for range cases {
		p := c.pass()
		for _, one := range p.Papers {
			by := 0
			if one.By != standard {
				by = boundOf(p, one.By, one.Year)
			}
			for year := one.Year; year <= min(one.Year+p.Age, api.PassYears); year++ {
				if most := by + adds(one, year); boundOf(p, one.Of, year) > most && most < unbounded {
					t.Fatalf("%v: by %v it is wrong by %d in %d at most, and told is %d", p, one, most, year, boundOf(p, one.Of, year))
				}
			}
		}
	}
}

// TestYearAfter: P10.9. In the year after, an item is no less wrong, if no certificate is written.
func TestYearAfter(t *testing.T) {
	c := chance(6)
	grown, better := 0, 0
	for range cases {
		p := c.pass()
		for _, year := range years()[1:] {
			written := slices.ContainsFunc(p.Papers, func(one api.PassPaper) bool { return one.Year == year })
			for item := range p.Items {
				before, now := boundOf(p, item, year-1), boundOf(p, item, year)
				switch {
				case written && now < before:
					better++
				case now < before:
					t.Fatalf("%v: %d is wrong by %d in %d, and by %d in the year after", p, item, before, year-1, now)
				case before < now && now < unbounded:
					grown++
				}
			}
		}
	}
	if grown < cases || better < cases {
		t.Errorf("%d bounds have grown, and %d are better", grown, better)
	}
}

// isNoWorse fails unless what is told by some certificates is at least as good as what is told by other ones.
func isNoWorse(t *testing.T, c *chance, p, than api.Pass) {
	t.Helper()
	for _, year := range years() {
		for item := range p.Items {
			if a, b := boundOf(p, item, year), boundOf(than, item, year); a > b {
				t.Fatalf("%v: %d in %d: %d, and of %v %d", p, item, year, a, than, b)
			}
		}
		a, _ := pass.Known(p, year)
		if b, _ := pass.Known(than, year); a&b != b {
			t.Fatalf("%v: known in %d are %d, and of %v %d", p, year, a, than, b)
		}
	}
	for _, year := range c.some(3) {
		item, set, limit := c.below(p.Items), c.below(1<<p.Items), c.between(0, 60)
		a, e := pass.Until(p, item, year, limit)
		if b, f := pass.Until(than, item, year, limit); f == api.OK && (e != api.OK || a < b) {
			t.Fatalf("%v: until %d, %v, and of %v until %d", p, a, e, than, b)
		}
		a, e = pass.Together(p, set, year)
		if b, f := pass.Together(than, set, year); f == api.OK && (e != api.OK || a > b) {
			t.Fatalf("%v: together %d, %v, and of %v %d", p, a, e, than, b)
		}
		a, e = pass.Renew(p, year, limit)
		if b, f := pass.Renew(than, year, limit); f == api.OK && (e != api.OK || bits.OnesCount(uint(a)) > bits.OnesCount(uint(b))) {
			t.Fatalf("%v: renewed are %d, %v, and of %v %d", p, a, e, than, b)
		}
	}
}

// TestMore: P10.9 and P2. With a certificate more no bound is greater, nor with one that is less wrong.
func TestMore(t *testing.T) {
	c := chance(7)
	for range cases / 3 {
		p := c.pass()
		if len(p.Papers) < api.PassPapers {
			isNoWorse(t, &c, with(p, c.paper(p.Items, 20)), p)
		}
		if len(p.Papers) > 0 {
			n := c.below(len(p.Papers))
			isNoWorse(t, &c, p, without(p, n))
			better := clone(p)
			better.Papers[n].Wrong = c.between(0, better.Papers[n].Wrong)
			isNoWorse(t, &c, better, p)
			better.Papers[n].Drift = c.between(0, better.Papers[n].Drift)
			isNoWorse(t, &c, better, p)
		}
		if p.Age < api.PassYears {
			older := clone(p)
			older.Age = c.between(p.Age, api.PassYears)
			isNoWorse(t, &c, older, p)
		}
	}
}

// TestRecalled: P10.9 and P10.6. A certificate that is not in the chain that is told can be recalled, and the bound is the same; what Recall tells is what is told without it.
func TestRecalled(t *testing.T) {
	c := chance(8)
	var many [3]int
	for range cases {
		p := c.pass()
		for _, year := range c.some(4) {
			for n := range p.Papers {
				worse, lost, e := pass.Recall(p, n, year)
				for item := range p.Items {
					before, after := boundOf(p, item, year), boundOf(without(p, n), item, year)
					chain, _ := pass.Chain(p, item, year)
					if !slices.Contains(chain, n) && before != after {
						t.Fatalf("%v: %d is wrong by %d in %d by %v, and without %d by %d", p, item, before, year, chain, n, after)
					}
					isWorse, isLost := worse>>item&1 == 1, lost>>item&1 == 1
					if e != api.OK || isWorse != (after > before) || isLost != (after == unbounded && before < unbounded) {
						t.Fatalf("%v: without %d in %d %d is worse, and %d lost, %v", p, n, year, worse, lost, e)
					}
					switch {
					case isLost:
						many[2]++
					case isWorse:
						many[1]++
					default:
						many[0]++
					}
				}
				if worse >= 1<<p.Items || lost&worse != lost {
					t.Fatalf("%v: without %d in %d %d is worse, and %d lost", p, n, year, worse, lost)
				}
			}
		}
	}
	if many[1] < cases/8 || many[2] < cases {
		t.Errorf("of items that are as they were, worse, and lost there are %v: too many are of one kind", many)
	}
}

// moved returns certificates of the same items with other numbers: the item n has the number order[n].
func moved(p api.Pass, order []int) api.Pass {
	p = clone(p)
	for n := range p.Papers {
		p.Papers[n].Of = order[p.Papers[n].Of]
		if by := p.Papers[n].By; by != standard {
			p.Papers[n].By = order[by]
		}
	}
	return p
}

// movedSet returns the set with the new numbers.
func movedSet(set int, order []int) int {
	is := 0
	for n, to := range order {
		is |= set >> n & 1 << to
	}
	return is
}

// TestOtherNumbers: P10.9. If items are numbered otherwise only their numbers change.
func TestOtherNumbers(t *testing.T) {
	c := chance(9)
	for range cases / 2 {
		p := c.pass()
		order := c.order(p.Items)
		q := moved(p, order)
		for _, year := range c.some(4) {
			limit := c.between(0, 40)
			for item, to := range order {
				same(t, "Bound", two(pass.Bound(q, to, year)), two(pass.Bound(p, item, year)))
				same(t, "Chain", row(pass.Chain(q, to, year)), row(pass.Chain(p, item, year)))
				same(t, "Until", two(pass.Until(q, to, year, limit)), two(pass.Until(p, item, year, limit)))
			}
			set, _ := pass.Known(p, year)
			same(t, "Known", two(pass.Known(q, year)), number(movedSet(set, order)))
			for _, set := range []int{set, c.below(1 << p.Items)} {
				same(t, "Together", two(pass.Together(q, movedSet(set, order), year)), two(pass.Together(p, set, year)))
			}
			for n := range p.Papers {
				worse, lost, _ := pass.Recall(p, n, year)
				same(t, "Recall", three(pass.Recall(q, n, year)), sets(movedSet(worse, order), movedSet(lost, order)))
			}
			same(t, "Renew", two(pass.Renew(q, year, limit)), two(pass.Renew(p, year, limit)))
		}
		if t.Failed() {
			t.Fatalf("the certificates are %v, and then %v", p, q)
		}
	}
}

// later returns certificates that were written so many years later.
func later(p api.Pass, by int) api.Pass {
	p = clone(p)
	for n := range p.Papers {
		p.Papers[n].Year += by
	}
	return p
}

// TestLater: P10.9. If all years are so many later nothing else changes; what holds until a year holds until one so many later, if that is one.
func TestLater(t *testing.T) {
	c := chance(10)
	for range cases / 2 {
		p := c.pass()
		last := 0
		for _, one := range p.Papers {
			last = max(last, one.Year)
		}
		by := c.between(0, api.PassYears-last)
		q := later(p, by)
		for range 4 {
			year, limit := c.between(0, api.PassYears-by), c.between(0, 40)
			for item := range p.Items {
				same(t, "Bound", two(pass.Bound(q, item, year+by)), two(pass.Bound(p, item, year)))
				same(t, "Chain", row(pass.Chain(q, item, year+by)), row(pass.Chain(p, item, year)))
				until := two(pass.Until(p, item, year, limit))
				if until[1] == api.OK {
					until[0] = min(until[0].(int)+by, api.PassYears)
				}
				same(t, "Until", two(pass.Until(q, item, year+by, limit)), until)
			}
			same(t, "Known", two(pass.Known(q, year+by)), two(pass.Known(p, year)))
			set := c.below(1 << p.Items)
			same(t, "Together", two(pass.Together(q, set, year+by)), two(pass.Together(p, set, year)))
			for n := range p.Papers {
				same(t, "Recall", three(pass.Recall(q, n, year+by)), three(pass.Recall(p, n, year)))
			}
			same(t, "Renew", two(pass.Renew(q, year+by, limit)), two(pass.Renew(p, year, limit)))
		}
		if t.Failed() {
			t.Fatalf("the certificates are %v, and then %v", p, q)
		}
	}
}

// TestOrder: P11. In whichever order certificates are given, nothing changes but their numbers, and which one of several chains or sets that do as well is told.
func TestOrder(t *testing.T) {
	c := chance(11)
	for range cases / 2 {
		p := c.pass()
		q, order := clone(p), c.order(len(p.Papers))
		for n, to := range order {
			q.Papers[to] = p.Papers[n]
		}
		for _, year := range c.some(4) {
			limit := c.between(0, 40)
			for item := range p.Items {
				same(t, "Bound", two(pass.Bound(q, item, year)), two(pass.Bound(p, item, year)))
				a, _ := pass.Chain(p, item, year)
				b, _ := pass.Chain(q, item, year)
				same(t, "the length of Chain", len(b), len(a))
				same(t, "Until", two(pass.Until(q, item, year, limit)), two(pass.Until(p, item, year, limit)))
			}
			same(t, "Known", two(pass.Known(q, year)), two(pass.Known(p, year)))
			set := c.below(1 << p.Items)
			same(t, "Together", two(pass.Together(q, set, year)), two(pass.Together(p, set, year)))
			for n, to := range order {
				same(t, "Recall", three(pass.Recall(q, to, year)), three(pass.Recall(p, n, year)))
			}
			a, e := pass.Renew(p, year, limit)
			b, f := pass.Renew(q, year, limit)
			same(t, "how many Renew tells", [2]any{bits.OnesCount(uint(b)), f}, [2]any{bits.OnesCount(uint(a)), e})
		}
		if t.Failed() {
			t.Fatalf("the certificates are %v, and then %v", p, q)
		}
	}
}

// TestOneAnother: P10.1 to P10.7. What the functions tell of the same certificates agrees.
func TestOneAnother(t *testing.T) {
	c := chance(12)
	for range cases / 2 {
		p := c.pass()
		for _, year := range c.some(4) {
			limit, all := c.between(0, 60), true
			for item := range p.Items {
				most := boundOf(p, item, year)
				set, _ := pass.Known(p, year)
				same(t, "whether Known has it", set>>item&1 == 1, most < unbounded)
				same(t, "Together of it alone", two(pass.Together(p, 1<<item, year)), two(pass.Bound(p, item, year)))
				last, e := pass.Until(p, item, year, limit)
				same(t, "whether Until tells of it", e == api.OK, most <= limit)
				if e == api.OK && last < api.PassYears {
					same(t, "whether it ends", boundOf(p, item, last+1) > limit, true)
				}
				all = all && most <= limit
			}
			set, e := pass.Renew(p, year, limit)
			same(t, "whether none is renewed", set == 0 && e == api.OK, all)
		}
		if t.Failed() {
			t.Fatalf("the certificates are %v", p)
		}
	}
}

// TestReplay: P11. The same call returns the same, however often it is made.
func TestReplay(t *testing.T) {
	c := chance(13)
	for range cases / 8 {
		p := c.pass()
		a := asked{c.below(p.Items), c.below(1 << p.Items), c.below(8), c.between(0, 8), c.between(0, 60)}
		for _, call := range calls(a) {
			first := call.do(p)
			for range 3 {
				same(t, call.name, call.do(p), first)
			}
		}
	}
}
