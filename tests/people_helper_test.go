package tests

import (
	"math"
	"slices"

	"loop.example/disclosurecontrol/impl"
)

// lots gives the same numbers in each run, so that a failure can be repeated.
type lots struct {
	state uint64
}

// below returns the next number of the range 0 to n-1.
func (l *lots) below(n int) int {
	l.state = l.state*6364136223846793005 + 1442695040888963407
	return int((l.state >> 33) % uint64(n))
}

// person returns the next valid person; the least and the greatest pay are frequent.
func (l *lots) person() impl.Person {
	p := impl.Person{Area: l.below(impl.Codes), Job: l.below(impl.Codes), Sex: l.below(2), Pay: l.below(impl.PayMax + 1)}
	switch l.below(6) {
	case 0:
		p.Pay = 0
	case 1:
		p.Pay = impl.PayMax
	}
	return p
}

// people returns the next list of n valid persons.
func (l *lots) people(n int) []impl.Person {
	list := make([]impl.Person, n)
	for i := range list {
		list[i] = l.person()
	}
	return list
}

// samePeople returns a list of n equal persons.
func samePeople(p impl.Person, n int) []impl.Person {
	return slices.Repeat([]impl.Person{p}, n)
}

// samplePeople returns valid lists: no people, one, PeopleMax, equal ones, and all the lengths between.
func samplePeople() [][]impl.Person {
	least := impl.Person{}
	greatest := impl.Person{Area: impl.Codes - 1, Job: impl.Codes - 1, Sex: 1, Pay: impl.PayMax}
	out := [][]impl.Person{
		nil,
		{},
		{least},
		{greatest},
		{least, greatest},
		samePeople(least, impl.PeopleMax),
		samePeople(greatest, impl.PeopleMax),
	}
	l := &lots{state: 1}
	for n := range impl.PeopleMax + 1 {
		out = append(out, l.people(n), l.people(n))
	}
	return out
}

// badPersons returns persons of which each has one field just or far out of its range.
func badPersons() []impl.Person {
	good := impl.Person{Area: 1, Job: 2, Sex: 1, Pay: 300}
	var out []impl.Person
	for _, v := range []int{-1, math.MinInt, math.MaxInt} {
		out = append(out, withArea(good, v), withJob(good, v), withSex(good, v), withPay(good, v))
	}
	return append(out,
		withArea(good, impl.Codes), withArea(good, impl.Codes+1),
		withJob(good, impl.Codes), withJob(good, impl.Codes+1),
		withSex(good, 2), withSex(good, 3),
		withPay(good, impl.PayMax+1), withPay(good, impl.PayMax+2))
}

// invalidPeople returns lists with one bad person in each place, and lists with too many persons.
func invalidPeople() [][]impl.Person {
	l := &lots{state: 2}
	var out [][]impl.Person
	for _, bad := range badPersons() {
		for k := range 4 {
			list := l.people(4)
			list[k] = bad
			out = append(out, list)
		}
		full := l.people(impl.PeopleMax)
		full[impl.PeopleMax-1] = bad
		out = append(out, []impl.Person{bad}, full)
	}
	return append(out, l.people(impl.PeopleMax+1), l.people(impl.PeopleMax*2), samePeople(impl.Person{}, 5000))
}

func withArea(p impl.Person, v int) impl.Person {
	p.Area = v
	return p
}

func withJob(p impl.Person, v int) impl.Person {
	p.Job = v
	return p
}

func withSex(p impl.Person, v int) impl.Person {
	p.Sex = v
	return p
}

func withPay(p impl.Person, v int) impl.Person {
	p.Pay = v
	return p
}

// asked is a question for the people with an area, a job and a sex, -1 standing for any.
type asked struct {
	area, job, sex int
}

// everyAsked returns all valid questions.
func everyAsked() []asked {
	var out []asked
	for area := -1; area < impl.Codes; area++ {
		for job := -1; job < impl.Codes; job++ {
			for sex := -1; sex < 2; sex++ {
				out = append(out, asked{area, job, sex})
			}
		}
	}
	return out
}

// badAsked returns questions of which at least one code is neither -1 nor in its range.
func badAsked() []asked {
	var out []asked
	for _, v := range []int{-2, impl.Codes, impl.Codes + 1, math.MinInt, math.MaxInt} {
		out = append(out, asked{v, -1, -1}, asked{-1, v, -1}, asked{v, 0, 0}, asked{0, v, 0}, asked{v, v, v})
	}
	for _, v := range []int{-2, 2, 3, impl.Codes - 1, math.MinInt, math.MaxInt} {
		out = append(out, asked{-1, -1, v}, asked{0, 0, v})
	}
	return out
}

func many(list []impl.Person, a asked) int {
	return impl.PeopleMany(list, a.area, a.job, a.sex)
}

func pay(list []impl.Person, a asked) int {
	return impl.PeoplePay(list, a.area, a.job, a.sex)
}

// of returns the question for just the codes of a person.
func of(p impl.Person) asked {
	return asked{p.Area, p.Job, p.Sex}
}

// has reports whether a person is among those that a question is for.
func (a asked) has(p impl.Person) bool {
	return (a.area == -1 || a.area == p.Area) && (a.job == -1 || a.job == p.Job) && (a.sex == -1 || a.sex == p.Sex)
}

// joined returns lists one behind the other in new memory.
func joined(lists ...[]impl.Person) []impl.Person {
	return slices.Concat(lists...)
}

// cuts returns the lengths at which a list is parted, both ends among them.
func cuts(list []impl.Person) []int {
	out := []int{0, len(list)}
	for _, i := range []int{1, len(list) / 2, len(list) - 1} {
		if i > 0 && i < len(list) {
			out = append(out, i)
		}
	}
	return out
}
