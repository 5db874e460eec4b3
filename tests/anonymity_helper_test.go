package tests

import (
	"cmp"
	"math"
	"slices"
	"testing"

	"loop.example/disclosurecontrol/impl"
)

func (g grouping) drop(k int) int {
	return impl.AnonDrop(g.list, g.ladder, g.r, k)
}

func (g grouping) anonymous(k int) bool {
	return impl.AnonOk(g.list, g.ladder, g.r, k)
}

// kept returns AnonKeep, which must succeed.
func (g grouping) kept(t *testing.T, k int) []impl.Person {
	t.Helper()
	list, ok := impl.AnonKeep(g.list, g.ladder, g.r, k)
	if !ok {
		t.Fatalf("AnonKeep of %v for %d fails", g, k)
	}
	return list
}

// best returns AnonBest, for which the recoding of the grouping does not matter.
func (g grouping) best(k int, drop int) (impl.Recode, bool) {
	return impl.AnonBest(g.list, g.ladder, k, drop)
}

func (g grouping) cost() int {
	return impl.AnonCost(g.ladder, g.r)
}

// alike returns other people without a ladder and without a recoding.
func alike(list []impl.Person) grouping {
	return grouping{list, nil, finest}
}

// ownKept returns the people that AnonKeep must return, without the program.
func (g grouping) ownKept(k int) []impl.Person {
	var out []impl.Person
	sizes := g.ownSizes()
	for i, p := range g.ownRecoded() {
		if sizes[i] >= k {
			out = append(out, p)
		}
	}
	return out
}

func (g grouping) ownDrop(k int) int {
	return len(g.list) - len(g.ownKept(k))
}

// ownCost returns the sum of the numbers of a valid recoding.
func ownCost(r impl.Recode) int {
	return r.Area + r.Job + r.Sex
}

// comparePreferred compares recodings in the order in which AnonBest chooses: it is negative if the first one goes before.
func comparePreferred(a impl.Recode, b impl.Recode) int {
	return cmp.Or(ownCost(a)-ownCost(b), a.Area-b.Area, a.Job-b.Job, a.Sex-b.Sex)
}

// ownFitting returns all recodings by which at most drop people are dropped, in the order in which AnonBest chooses, without the program.
func (g grouping) ownFitting(k int, drop int) []impl.Recode {
	var out []impl.Recode
	for _, r := range everyRecoding(g.ladder) {
		if g.by(r).ownDrop(k) <= drop {
			out = append(out, r)
		}
	}
	slices.SortFunc(out, comparePreferred)
	return out
}

// clustered returns n persons who have the codes of only few persons, and different pays.
func clustered(l *lots, n int, few int) []impl.Person {
	codes := l.people(few)
	out := l.people(n)
	for k := range out {
		out[k] = withPay(codes[l.below(few)], out[k].Pay)
	}
	return out
}

// clusteredLists returns valid lists of people of which many have the same codes.
func clusteredLists() [][]impl.Person {
	l := &lots{state: 8}
	var out [][]impl.Person
	for few := 2; few <= 9; few++ {
		for _, n := range []int{few, impl.PeopleMax / 2, impl.PeopleMax} {
			out = append(out, clustered(l, n, few))
		}
	}
	return out
}

// needs returns numbers of people that a group may be asked to have: the edges, and those about the number of people and about the sizes of groups.
func (g grouping) needs() []int {
	near := append(g.ownSizes(), 1, len(g.list), impl.PeopleMax-1)
	var out []int
	for _, n := range near {
		for _, k := range []int{n, n + 1} {
			if k >= 1 && k <= impl.PeopleMax {
				out = append(out, k)
			}
		}
	}
	slices.Sort(out)
	return slices.Compact(out)
}

// drops returns numbers of people that may be dropped: the edges, and those about the number of people.
func (g grouping) drops() []int {
	n := len(g.list)
	out := []int{0, 1, 3, n / 2, max(n-1, 0), n, n + 1, math.MaxInt}
	slices.Sort(out)
	return slices.Compact(out)
}

// badNeeds returns numbers of people that no group can be asked to have.
func badNeeds() []int {
	return []int{0, -1, -2, impl.PeopleMax + 1, impl.PeopleMax + 2, math.MinInt, math.MaxInt}
}

// badDrops returns numbers of people that cannot be dropped.
func badDrops() []int {
	return []int{-1, -2, -impl.PeopleMax, math.MinInt}
}

// eachAnonymity calls a function with each grouping, and with clustered people and each recoding for ladders drawn by lot.
func eachAnonymity(do func(g grouping)) {
	eachGrouping(do)
	ladders, l := everyLadder(), &lots{state: 9}
	for _, list := range clusteredLists() {
		ladder := ladders[l.below(len(ladders))]
		for _, r := range everyRecoding(ladder) {
			do(grouping{list, ladder, r})
		}
	}
}

// eachNeed calls a function with each grouping of eachAnonymity and each of its needs.
func eachNeed(do func(g grouping, k int)) {
	eachAnonymity(func(g grouping) {
		for _, k := range g.needs() {
			do(g, k)
		}
	})
}

// eachChoice calls a function with people, ladders, needs and numbers of people that may be dropped: what AnonBest is about.
// Each ladder is met, and each list of people with several ladders; the recoding of the groupings is the finest one.
func eachChoice(do func(g grouping, k int, drop int)) {
	lists, ladders, l := append(groupLists(), clusteredLists()...), everyLadder(), &lots{state: 10}
	call := func(g grouping) {
		for _, k := range g.needs() {
			for _, drop := range g.drops() {
				do(g, k, drop)
			}
		}
	}
	for _, ladder := range ladders {
		call(grouping{lists[l.below(len(lists))], ladder, finest})
	}
	for _, list := range lists {
		call(grouping{list, nil, finest})
		call(grouping{list, ladders[l.below(len(ladders))], finest})
	}
}

// eachBest calls a function with each choice for which AnonBest succeeds, and with its recoding.
func eachBest(do func(g grouping, k int, drop int, r impl.Recode)) {
	eachChoice(func(g grouping, k int, drop int) {
		if r, ok := g.best(k, drop); ok {
			do(g, k, drop, r)
		}
	})
}
