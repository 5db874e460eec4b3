package tests

import (
	"math"
	"slices"
	"testing"

	"loop.example/disclosurecontrol/impl"
)

// manyBands is the number of bands of pay.
const manyBands = 10

// bands returns DiverseSize.
func (g grouping) bands(k int) int {
	return impl.DiverseSize(g.list, g.ladder, g.r, k)
}

// leastBands returns DiverseLeast.
func (g grouping) leastBands() int {
	return impl.DiverseLeast(g.list, g.ladder, g.r)
}

func (g grouping) diverse(k int, l int) bool {
	return impl.DiverseOk(g.list, g.ladder, g.r, k, l)
}

func (g grouping) far(k int) int {
	return impl.DiverseFar(g.list, g.ladder, g.r, k)
}

// eachBands returns DiverseSize of each person.
func (g grouping) eachBands() []int {
	out := make([]int, len(g.list))
	for k := range out {
		out[k] = g.bands(k)
	}
	return out
}

// eachFar returns DiverseFar of each person.
func (g grouping) eachFar() []int {
	out := make([]int, len(g.list))
	for k := range out {
		out[k] = g.far(k)
	}
	return out
}

// ownMany returns how many of some people have a pay from low to high, without the program.
func ownMany(list []impl.Person, low int, high int) int {
	many := 0
	for _, p := range list {
		if p.Pay >= low && p.Pay <= high {
			many++
		}
	}
	return many
}

// ownGroups returns for each person the recoded people of the same group, without the program.
func (g grouping) ownGroups() [][]impl.Person {
	list := g.ownRecoded()
	out := make([][]impl.Person, len(list))
	for k, p := range list {
		for _, q := range list {
			if of(p) == of(q) {
				out[k] = append(out[k], q)
			}
		}
	}
	return out
}

// ownBands returns what DiverseSize must be for each person.
func (g grouping) ownBands() []int {
	out := make([]int, len(g.list))
	for k, group := range g.ownGroups() {
		for low := 0; low <= impl.PayMax; low += 100 {
			out[k] += min(ownMany(group, low, low+99), 1)
		}
	}
	return out
}

// ownFar returns what DiverseFar must be for each person.
func (g grouping) ownFar() []int {
	out := make([]int, len(g.list))
	for k, group := range g.ownGroups() {
		for low := 0; low <= impl.PayMax; low += 100 {
			share := ownMany(group, low, low+99) * len(g.list)
			want := ownMany(g.list, low, low+99) * len(group)
			out[k] += max(share, want) - min(share, want)
		}
	}
	return out
}

// ownDiverse reports whether DiverseOk must hold for valid people, given what GroupSize and DiverseSize must be for each person.
func ownDiverse(sizes []int, bands []int, k int, l int) bool {
	if k < 1 || k > impl.PeopleMax || l < 1 || l > impl.PeopleMax {
		return false
	}
	return len(sizes) == 0 || slices.Min(sizes) >= k && slices.Min(bands) >= l
}

// paid returns people with other pays, which a function tells by their indexes.
func paid(list []impl.Person, pay func(k int) int) []impl.Person {
	out := joined(list)
	for k := range out {
		out[k].Pay = pay(k)
	}
	return out
}

// unpaid returns people with all pays 0.
func unpaid(list []impl.Person) []impl.Person {
	return paid(list, func(int) int { return 0 })
}

// eachBandOnce returns people with the same codes, one for each band.
func eachBandOnce() []impl.Person {
	return paid(samePeople(impl.Person{Area: 1, Job: 2, Sex: 1}, manyBands), func(k int) int { return 109*k + 9 - 9*k })
}

// inProportion returns groups of 3, 6, 9 and 12 people of which a third has another band.
func inProportion() []impl.Person {
	var out []impl.Person
	for area := range impl.Codes {
		for k := range 3 * (area + 1) {
			out = append(out, impl.Person{Area: area, Job: area, Pay: 250 + 12*area + 400*min(k%3, 1)})
		}
	}
	return out
}

// diverseLists returns valid lists of people whose groups have bands of all kinds.
func diverseLists() [][]impl.Person {
	l := &lots{state: 11}
	once := eachBandOnce()
	out := [][]impl.Person{nil, {}, l.people(1), l.people(2), l.people(impl.PeopleMax), once, joined(once, once), inProportion()}
	for band := range manyBands {
		out = append(out, paid(clustered(l, 4, 2), func(k int) int { return 100*band + 99*(k%2) }))
	}
	for _, list := range [][]impl.Person{
		oneGroup(), everybodyAlone(), clustered(l, 10, 3), clustered(l, 20, 2), clustered(l, 20, 5), clustered(l, impl.PeopleMax, 4), clustered(l, impl.PeopleMax, 9),
	} {
		out = append(out,
			unpaid(list),
			paid(list, func(int) int { return 400 + l.below(100) }),
			paid(list, func(int) int { return 200 + 99*l.below(2) + 500*l.below(2) }),
			paid(list, func(k int) int { return 100*(k%manyBands) + 99*l.below(2) }),
			paid(list, func(k int) int { return 100*(k*k%7) + l.below(100) }))
	}
	half := clustered(l, impl.PeopleMax/2, 3)
	return append(out, joined(half, half))
}

// eachDiversity calls a function with groupings of people whose groups are of all kinds, in their numbers and in their bands.
func eachDiversity(do func(g grouping)) {
	eachGroupingOf(slices.Concat(clusteredLists(), diverseLists()), &lots{state: 12}, do)
}

// askedDiversity returns pairs of numbers of people and of bands that groups may be asked to have: the edges, and those about what the groups have.
func (g grouping) askedDiversity() [][2]int {
	needs, bands := []int{1, impl.PeopleMax}, []int{1, manyBands, manyBands + 1, impl.PeopleMax}
	if len(g.list) > 0 {
		size, least := slices.Min(g.ownSizes()), slices.Min(g.ownBands())
		needs = append(needs, size, min(size+1, impl.PeopleMax))
		bands = append(bands, least, least+1)
	}
	var out [][2]int
	for _, k := range needs {
		for _, l := range bands {
			if !slices.Contains(out, [2]int{k, l}) {
				out = append(out, [2]int{k, l})
			}
		}
	}
	return out
}

// eachAskedDiversity calls a function with each grouping of eachDiversity and each of its pairs of numbers.
func eachAskedDiversity(do func(g grouping, k int, l int)) {
	eachDiversity(func(g grouping) {
		for _, pair := range g.askedDiversity() {
			do(g, pair[0], pair[1])
		}
	})
}

// eachDiverse calls a function with what eachAskedDiversity has if DiverseOk holds.
func eachDiverse(do func(g grouping, k int, l int)) {
	eachAskedDiversity(func(g grouping, k int, l int) {
		if g.diverse(k, l) {
			do(g, k, l)
		}
	})
}

// expectNoDiversity expects that all functions of diversity tell that the people, the ladder or the recoding is invalid.
func expectNoDiversity(t *testing.T, g grouping) {
	t.Helper()
	if got := g.leastBands(); got != -1 {
		t.Errorf("DiverseLeast of %v is %d", g, got)
	}
	for _, k := range []int{-1, 0, 1, len(g.list) - 1, len(g.list), impl.PeopleMax} {
		if g.bands(k) != -1 || g.far(k) != -1 {
			t.Errorf("DiverseSize %d of %v is %d, and DiverseFar %d", k, g, g.bands(k), g.far(k))
		}
	}
	for _, k := range []int{0, 1, 2, impl.PeopleMax} {
		if g.diverse(k, 1) || g.diverse(1, k) || g.diverse(k, k) {
			t.Errorf("DiverseOk of %v holds for %d", g, k)
		}
	}
}

// callDiversity calls all functions of diversity with valid and invalid indexes and numbers.
func (g grouping) callDiversity() {
	g.leastBands()
	for _, k := range []int{math.MinInt, -1, 0, 1, len(g.list) / 2, len(g.list) - 1, len(g.list), math.MaxInt} {
		g.bands(k)
		g.far(k)
	}
	for _, k := range []int{-1, 0, 1, 2, impl.PeopleMax, impl.PeopleMax + 1} {
		g.diverse(k, 1)
		g.diverse(1, k)
	}
}
