package tests

import (
	"math"
	"slices"
	"testing"

	"loop.example/disclosurecontrol/impl"
)

// finest is the recoding that keeps all codes.
var finest = impl.Recode{}

// grouping is people with a ladder and a recoding: what the functions of groups are about.
type grouping struct {
	list   []impl.Person
	ladder [][]int
	r      impl.Recode
}

func (g grouping) size(k int) int {
	return impl.GroupSize(g.list, g.ladder, g.r, k)
}

func (g grouping) least() int {
	return impl.GroupLeast(g.list, g.ladder, g.r)
}

func (g grouping) groups() int {
	return impl.GroupMany(g.list, g.ladder, g.r)
}

func (g grouping) uniques() int {
	return impl.GroupUniques(g.list, g.ladder, g.r)
}

// sizes returns GroupSize of each person.
func (g grouping) sizes() []int {
	out := make([]int, len(g.list))
	for k := range out {
		out[k] = g.size(k)
	}
	return out
}

// recoded returns RecodePeople, which must succeed.
func (g grouping) recoded(t *testing.T) []impl.Person {
	t.Helper()
	list, ok := impl.RecodePeople(g.list, g.ladder, g.r)
	if !ok {
		t.Fatalf("RecodePeople of %v fails", g)
	}
	return list
}

// by returns the same people and ladder with another recoding.
func (g grouping) by(r impl.Recode) grouping {
	g.r = r
	return g
}

// of returns other people with the same ladder and recoding.
func (g grouping) of(list []impl.Person) grouping {
	g.list = list
	return g
}

// ownRecoded recodes the people as the document tells, without the program.
func (g grouping) ownRecoded() []impl.Person {
	out := joined(g.list)
	for k := range out {
		out[k].Area = highest(g.ladder[:g.r.Area])[out[k].Area]
		out[k].Job *= 1 - g.r.Job
		out[k].Sex *= 1 - g.r.Sex
	}
	return out
}

// ownSizes counts, for each person, those with the same codes, without the program.
func (g grouping) ownSizes() []int {
	list := g.ownRecoded()
	out := make([]int, len(list))
	for k, p := range list {
		for _, q := range list {
			if of(p) == of(q) {
				out[k]++
			}
		}
	}
	return out
}

// byHand returns a grouping that is small enough to be counted by hand: by the ladder, the area 3 joins 1 and then both join 0.
func byHand() grouping {
	return grouping{[]impl.Person{
		{Area: 3, Job: 2, Sex: 1, Pay: 10},
		{Area: 1, Job: 2, Sex: 1, Pay: 20},
		{Area: 0, Job: 2, Sex: 0, Pay: 30},
		{Area: 2, Job: 1, Sex: 0, Pay: 40},
		{Area: 1, Job: 2, Sex: 1, Pay: 20},
	}, [][]int{{0, 1, 2, 1}, {0, 0, 2, 0}}, finest}
}

// coarsest returns the recoding with the greatest numbers.
func coarsest(ladder [][]int) impl.Recode {
	return impl.Recode{Area: len(ladder), Job: 1, Sex: 1}
}

// everyRecoding returns all recodings that are valid for a ladder.
func everyRecoding(ladder [][]int) []impl.Recode {
	var out []impl.Recode
	for area := range len(ladder) + 1 {
		for job := range 2 {
			for sex := range 2 {
				out = append(out, impl.Recode{Area: area, Job: job, Sex: sex})
			}
		}
	}
	return out
}

// eachSmallRecoding calls a function with each ladder and with all recodings of small numbers, whether they are valid for it or not.
func eachSmallRecoding(do func(ladder [][]int, r impl.Recode, valid bool)) {
	for _, ladder := range everyLadder() {
		for area := -2; area <= impl.StepsMax+2; area++ {
			for job := -2; job <= 3; job++ {
				for sex := -2; sex <= 3; sex++ {
					r := impl.Recode{Area: area, Job: job, Sex: sex}
					do(ladder, r, slices.Contains(everyRecoding(ladder), r))
				}
			}
		}
	}
}

// badRecodings returns recodings of which at least one number is just or far out of its range for a ladder.
func badRecodings(ladder [][]int) []impl.Recode {
	var out []impl.Recode
	for _, v := range badLevels(ladder) {
		out = append(out, impl.Recode{Area: v}, impl.Recode{Area: v, Job: 1, Sex: 1})
	}
	for _, v := range []int{-1, -2, 2, 3, math.MinInt, math.MaxInt} {
		out = append(out, impl.Recode{Job: v}, impl.Recode{Area: len(ladder), Job: v, Sex: 1})
		out = append(out, impl.Recode{Sex: v}, impl.Recode{Area: len(ladder), Job: 1, Sex: v})
		out = append(out, impl.Recode{Area: v + len(ladder), Job: v, Sex: v})
	}
	return out
}

// finer reports whether no number of the first recoding is greater than that of the second one.
func finer(a impl.Recode, b impl.Recode) bool {
	return a.Area <= b.Area && a.Job <= b.Job && a.Sex <= b.Sex
}

// everybodyAlone returns a person for each area, job and sex, with different pays.
func everybodyAlone() []impl.Person {
	var out []impl.Person
	for area := range impl.Codes {
		for job := range impl.Codes {
			for sex := range 2 {
				out = append(out, impl.Person{Area: area, Job: job, Sex: sex, Pay: 30 * len(out)})
			}
		}
	}
	return out
}

// oneGroup returns PeopleMax persons with the same codes and different pays.
func oneGroup() []impl.Person {
	out := samePeople(impl.Person{Area: 2, Job: 3, Sex: 1}, impl.PeopleMax)
	for k := range out {
		out[k].Pay = 25 * k
	}
	return out
}

// groupLists returns valid lists of people whose groups are of all kinds.
func groupLists() [][]impl.Person {
	l := &lots{state: 5}
	alone, half := everybodyAlone(), l.people(impl.PeopleMax/2)
	out := append(samplePeople(), alone, oneGroup(), joined(half, half), joined(alone, alone[:impl.PeopleMax-len(alone)]))
	for _, n := range []int{1, 2, 3, 4, 7, 12, impl.PeopleMax / 2, impl.PeopleMax/2 + 1, impl.PeopleMax - 1, impl.PeopleMax} {
		areas, jobs, sexes := l.people(n), l.people(n), l.people(n)
		for k := range n {
			areas[k].Job, areas[k].Sex = 1, 0
			jobs[k].Area, jobs[k].Sex = 3, 1
			sexes[k].Area, sexes[k].Job = 2, 2
		}
		out = append(out, areas, jobs, sexes)
	}
	return out
}

// eachRecoding calls a function with each ladder and each recoding that is valid for it.
func eachRecoding(do func(ladder [][]int, r impl.Recode)) {
	for _, ladder := range everyLadder() {
		for _, r := range everyRecoding(ladder) {
			do(ladder, r)
		}
	}
}

// eachGrouping calls a function with groupings of people whose groups are of all kinds.
func eachGrouping(do func(g grouping)) {
	eachGroupingOf(groupLists(), &lots{state: 6}, do)
}

// eachGroupingOf calls a function with each ladder and recoding for people drawn by lot, and with each list of people for ladders drawn by lot.
func eachGroupingOf(lists [][]impl.Person, l *lots, do func(g grouping)) {
	ladders := everyLadder()
	eachRecoding(func(ladder [][]int, r impl.Recode) {
		do(grouping{lists[l.below(len(lists))], ladder, r})
	})
	for _, list := range lists {
		for _, ladder := range [][][]int{{}, ladders[l.below(len(ladders))], ladders[len(ladders)-1-l.below(len(ladders)/2)]} {
			for _, r := range everyRecoding(ladder) {
				do(grouping{list, ladder, r})
			}
		}
	}
}

// eachInvalidGrouping calls a function with groupings of which the people, the ladder or the recoding is invalid.
func eachInvalidGrouping(do func(g grouping)) {
	one, all := []impl.Person{{Area: 1, Job: 2, Sex: 1, Pay: 3}}, impl.Recode{Area: 1, Job: 1, Sex: 1}
	for _, list := range invalidPeople() {
		do(grouping{list, [][]int{{0, 0, 0, 0}}, all})
	}
	for _, ladder := range invalidLadders() {
		do(grouping{one, ladder, all})
	}
	for _, ladder := range everyLadder() {
		for _, bad := range badRecodings(ladder) {
			do(grouping{one, ladder, bad})
		}
	}
}

// withRoom returns people with persons behind them that are not theirs.
func withRoom(list []impl.Person) []impl.Person {
	return joined(list, samePeople(impl.Person{Area: 3, Pay: 77}, 3))[:len(list)]
}

// expectStays calls functions with people and a ladder that have room behind them, and expects that neither they nor the room change.
func expectStays(t *testing.T, g grouping, call func(g grouping)) {
	t.Helper()
	ladder, whole := roomy(g.ladder)
	list := withRoom(g.list)
	room := list[:cap(list)]
	steps, people := toCapacity(whole), slices.Clone(room)
	call(grouping{list, ladder, g.r})
	if !slices.Equal(room, people) || !sameLadder(toCapacity(whole), steps) {
		t.Fatalf("%v and %v became %v and %v", people, steps, room, toCapacity(whole))
	}
}

// expectNewMemory writes into all memory of a result and expects that the people, the room behind them and another result stay.
func expectNewMemory(t *testing.T, g grouping, result func(g grouping) []impl.Person) {
	t.Helper()
	g.list = withRoom(g.list)
	room := g.list[:cap(g.list)]
	before := slices.Clone(room)
	first, second := result(g), result(g)
	want := slices.Clone(second)
	whole := first[:cap(first)]
	for k := range whole {
		whole[k] = impl.Person{Area: -7, Job: -7, Sex: -7, Pay: -7}
	}
	if !slices.Equal(room, before) || !slices.Equal(second, want) {
		t.Fatalf("a result of %v shares its memory", g)
	}
}
