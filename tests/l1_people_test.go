package tests

import (
	"math"
	"slices"
	"testing"

	"loop.example/disclosurecontrol/impl"
)

var anyone = asked{-1, -1, -1}

func TestPeopleConstants(t *testing.T) {
	if impl.Codes != 4 || impl.PayMax != 999 || impl.PeopleMax != 40 {
		t.Errorf("Codes %d, PayMax %d, PeopleMax %d", impl.Codes, impl.PayMax, impl.PeopleMax)
	}
}

func TestPersonValidForAllCodes(t *testing.T) {
	for area := range impl.Codes {
		for job := range impl.Codes {
			for sex := range 2 {
				for _, pay := range []int{0, 1, 500, impl.PayMax - 1, impl.PayMax} {
					p := impl.Person{Area: area, Job: job, Sex: sex, Pay: pay}
					if !impl.PersonValid(p) {
						t.Errorf("%v is not valid", p)
					}
				}
			}
		}
	}
}

func TestPromise1PersonValid(t *testing.T) {
	l := &lots{state: 3}
	for range 200 {
		p := l.person()
		if !impl.PersonValid(p) {
			t.Fatalf("%v is not valid", p)
		}
		for _, bad := range []impl.Person{withArea(p, impl.Codes), withJob(p, -1), withSex(p, 2), withPay(p, impl.PayMax+1)} {
			if impl.PersonValid(bad) {
				t.Errorf("%v is valid", bad)
			}
		}
	}
	for _, bad := range badPersons() {
		if impl.PersonValid(bad) {
			t.Errorf("%v is valid", bad)
		}
	}
}

func TestPromise2PeopleValid(t *testing.T) {
	for _, list := range samplePeople() {
		if !impl.PeopleValid(list) {
			t.Fatalf("%v are not valid", list)
		}
		for _, i := range cuts(list) {
			if !impl.PeopleValid(list[:i]) || !impl.PeopleValid(list[i:]) {
				t.Errorf("parts of %v are not valid", list)
			}
		}
		if impl.PeopleValid(joined(list, list)) != (len(list) <= impl.PeopleMax/2) {
			t.Errorf("twice %d people: wrong", len(list))
		}
	}
	for _, list := range invalidPeople() {
		if impl.PeopleValid(list) {
			t.Errorf("%d persons are valid: %v", len(list), list)
		}
	}
}

func TestPromise3PeopleManyOfParts(t *testing.T) {
	for _, list := range samplePeople() {
		if got := many(list, anyone); got != len(list) {
			t.Errorf("PeopleMany of all is %d for %d people", got, len(list))
		}
		for _, a := range everyAsked() {
			for _, i := range cuts(list) {
				if many(list, a) != many(list[:i], a)+many(list[i:], a) {
					t.Errorf("PeopleMany %v of parts at %d of %v", a, i, list)
				}
			}
		}
	}
}

func TestPromise4PeopleManyOfAny(t *testing.T) {
	for _, list := range samplePeople() {
		for _, a := range everyAsked() {
			areas, sexes := 0, 0
			for area := range impl.Codes {
				areas += many(list, asked{area, a.job, a.sex})
			}
			for sex := range 2 {
				sexes += many(list, asked{a.area, a.job, sex})
			}
			if many(list, asked{-1, a.job, a.sex}) != areas || many(list, asked{a.area, a.job, -1}) != sexes {
				t.Errorf("PeopleMany %v of any area or sex of %v", a, list)
			}
		}
	}
}

func TestPromise5PeoplePayOfParts(t *testing.T) {
	for _, list := range samplePeople() {
		for _, a := range everyAsked() {
			whole := pay(list, a)
			if whole < 0 || whole > impl.PayMax*many(list, a) {
				t.Errorf("PeoplePay %v is %d for %v", a, whole, list)
			}
			for _, i := range cuts(list) {
				if whole != pay(list[:i], a)+pay(list[i:], a) {
					t.Errorf("PeoplePay %v of parts at %d of %v", a, i, list)
				}
			}
		}
	}
}

func TestPromise6PeoplePayOfAnyJob(t *testing.T) {
	for _, list := range samplePeople() {
		for _, a := range everyAsked() {
			jobs := 0
			for job := range impl.Codes {
				jobs += pay(list, asked{a.area, job, a.sex})
			}
			if pay(list, asked{a.area, -1, a.sex}) != jobs {
				t.Errorf("PeoplePay %v of any job of %v", a, list)
			}
		}
	}
}

func TestPromise7PeopleWithoutOne(t *testing.T) {
	for _, list := range samplePeople() {
		for k, p := range list {
			rest, ok := impl.PeopleWithout(list, k)
			if !ok || !slices.Equal(rest, joined(list[:k], list[k+1:])) {
				t.Fatalf("PeopleWithout %d of %v is %v, %v", k, list, rest, ok)
			}
			if many(rest, anyone) != many(list, anyone)-1 || pay(rest, anyone) != pay(list, anyone)-p.Pay {
				t.Errorf("PeopleMany and PeoplePay without %d of %v", k, list)
			}
		}
	}
}

func TestPromise8PeopleBandOfPay(t *testing.T) {
	for pay := range impl.PayMax + 1 {
		band := impl.PeopleBand(pay)
		if band < 0 || band > 9 || 100*band > pay || 100*band <= pay-100 {
			t.Errorf("PeopleBand of %d is %d", pay, band)
		}
	}
	for _, pay := range []int{-1, -99, -100, -101, math.MinInt, impl.PayMax + 1, impl.PayMax + 2, math.MaxInt} {
		if got := impl.PeopleBand(pay); got != -1 {
			t.Errorf("PeopleBand of %d is %d", pay, got)
		}
	}
}

func TestPromise9FirstPersonsMoved(t *testing.T) {
	for _, list := range samplePeople() {
		for _, i := range cuts(list) {
			moved := joined(list[i:], list[:i])
			for _, a := range everyAsked() {
				if many(moved, a) != many(list, a) || pay(moved, a) != pay(list, a) {
					t.Errorf("%v with %d persons of %v moved", a, i, list)
				}
			}
		}
	}
}

func TestPromise10ManyOfThePerson(t *testing.T) {
	for _, list := range samplePeople() {
		for k, p := range list {
			rest, ok := impl.PeopleWithout(list, k)
			with := many(list, of(p))
			if !ok || with < 1 || with != many(rest, of(p))+1 {
				t.Errorf("PeopleMany with and without %d of %v", k, list)
			}
		}
	}
}

func TestPromise11WithoutTwo(t *testing.T) {
	for _, list := range samplePeople() {
		if len(list) < 2 {
			continue
		}
		for k := 1; k < len(list); k++ {
			late, _ := impl.PeopleWithout(list, k)
			late, lateOk := impl.PeopleWithout(late, 0)
			early, _ := impl.PeopleWithout(list, 0)
			early, earlyOk := impl.PeopleWithout(early, k-1)
			if !lateOk || !earlyOk || !slices.Equal(late, early) || len(late) != len(list)-2 {
				t.Errorf("without 0 and %d of %v: %v and %v", k, list, late, early)
			}
		}
		twice, _ := impl.PeopleWithout(list, 0)
		twice, ok := impl.PeopleWithout(twice, 0)
		if !ok || !slices.Equal(twice, list[2:]) {
			t.Errorf("without the first two of %v: %v", list, twice)
		}
	}
}

func TestPromise12NextBand(t *testing.T) {
	for pay := range impl.PayMax {
		step := impl.PeopleBand(pay+1) - impl.PeopleBand(pay)
		if step != 0 && step != 1 {
			t.Errorf("PeopleBand of %d is %d more", pay+1, step)
		}
		if (step == 1) != ((pay+1)%100 == 0) {
			t.Errorf("PeopleBand of %d is %d more", pay+1, step)
		}
	}
	if impl.PeopleBand(impl.PayMax) != 9 || impl.PeopleBand(impl.PayMax+1) != -1 {
		t.Errorf("PeopleBand behind PayMax is %d", impl.PeopleBand(impl.PayMax+1))
	}
}

func TestPromise13BandsAndPay(t *testing.T) {
	for _, list := range samplePeople() {
		bands, all := 0, pay(list, anyone)
		for _, p := range list {
			bands += 100 * impl.PeopleBand(p.Pay)
		}
		if bands > all || len(list) > 0 && bands <= all-100*len(list) {
			t.Errorf("bands %d for the pay %d of %v", bands, all, list)
		}
	}
}

func TestPromise14FurtherPerson(t *testing.T) {
	l := &lots{state: 4}
	for _, list := range samplePeople() {
		p := l.person()
		more := joined(list, []impl.Person{p})
		for _, a := range everyAsked() {
			if len(list) == impl.PeopleMax {
				if many(more, a) != -1 || pay(more, a) != -1 {
					t.Errorf("%d people are counted", len(more))
				}
				continue
			}
			one, sum := 0, 0
			if a.has(p) {
				one, sum = 1, p.Pay
			}
			if many(more, a) != many(list, a)+one || pay(more, a) != pay(list, a)+sum {
				t.Errorf("%v with %v further in %v", a, p, list)
			}
		}
	}
}

func TestPromise15PeopleTwice(t *testing.T) {
	for _, list := range samplePeople() {
		twice := joined(list, list)
		for _, a := range everyAsked() {
			wantMany, wantPay := 2*many(list, a), 2*pay(list, a)
			if len(list) > impl.PeopleMax/2 {
				wantMany, wantPay = -1, -1
			}
			if many(twice, a) != wantMany || pay(twice, a) != wantPay {
				t.Errorf("%v for twice %v", a, list)
			}
		}
	}
}

// TestPeopleCounted counts anew: the promises alone would also hold for other numbers.
func TestPeopleCounted(t *testing.T) {
	for _, list := range samplePeople() {
		for _, a := range everyAsked() {
			wantMany, wantPay := 0, 0
			for _, p := range list {
				if a.has(p) {
					wantMany++
					wantPay += p.Pay
				}
			}
			if many(list, a) != wantMany || pay(list, a) != wantPay {
				t.Errorf("%v of %v: %d and %d", a, list, many(list, a), pay(list, a))
			}
		}
	}
}

func TestPeopleGreatestPay(t *testing.T) {
	list := samePeople(impl.Person{Pay: impl.PayMax}, impl.PeopleMax)
	if got := pay(list, anyone); got != impl.PeopleMax*impl.PayMax {
		t.Errorf("PeoplePay is %d", got)
	}
}

func TestPeopleInvalid(t *testing.T) {
	for _, list := range invalidPeople() {
		for _, a := range []asked{anyone, {0, 0, 0}, {1, 2, 1}, {impl.Codes - 1, -1, -1}} {
			if many(list, a) != -1 || pay(list, a) != -1 {
				t.Errorf("%v of %v: %d and %d", a, list, many(list, a), pay(list, a))
			}
		}
		for _, k := range []int{-1, 0, len(list) - 1, len(list)} {
			if rest, ok := impl.PeopleWithout(list, k); ok || len(rest) != 0 {
				t.Errorf("PeopleWithout %d of %v is %v, %v", k, list, rest, ok)
			}
		}
	}
}

func TestPeopleInvalidCodes(t *testing.T) {
	for _, list := range samplePeople() {
		for _, a := range badAsked() {
			if many(list, a) != -1 || pay(list, a) != -1 {
				t.Errorf("%v of %v: %d and %d", a, list, many(list, a), pay(list, a))
			}
		}
	}
}

func TestPeopleWithoutNoIndex(t *testing.T) {
	for _, list := range samplePeople() {
		for _, k := range []int{-1, -2, len(list), len(list) + 1, math.MinInt, math.MaxInt} {
			if rest, ok := impl.PeopleWithout(list, k); ok || len(rest) != 0 {
				t.Errorf("PeopleWithout %d of %v is %v, %v", k, list, rest, ok)
			}
		}
	}
}

func TestPeopleWithoutTheOnlyOne(t *testing.T) {
	rest, ok := impl.PeopleWithout([]impl.Person{{Area: 1, Pay: 5}}, 0)
	if !ok || len(rest) != 0 {
		t.Errorf("PeopleWithout is %v, %v", rest, ok)
	}
}

// TestPeopleArgumentsStay looks at the room behind the lists, too: a function must not write there either.
func TestPeopleArgumentsStay(t *testing.T) {
	for _, list := range slices.Concat(samplePeople(), invalidPeople()) {
		room := joined(list, samePeople(impl.Person{Area: 3, Pay: 77}, 3))
		before := slices.Clone(room)
		arg := room[:len(list)]
		impl.PeopleValid(arg)
		for _, a := range slices.Concat(everyAsked(), badAsked()) {
			many(arg, a)
			pay(arg, a)
		}
		for k := -1; k <= min(len(arg), impl.PeopleMax); k++ {
			impl.PeopleWithout(arg, k)
		}
		if !slices.Equal(room, before) {
			t.Fatalf("%v became %v", before, room)
		}
	}
}

func TestPeopleWithoutIsNewMemory(t *testing.T) {
	mark := impl.Person{Area: -7, Job: -7, Sex: -7, Pay: -7}
	for _, list := range samplePeople() {
		for k := range list {
			room := joined(list, samePeople(impl.Person{Area: 3, Pay: 77}, 3))
			before := slices.Clone(room)
			rest, _ := impl.PeopleWithout(room[:len(list)], k)
			again, _ := impl.PeopleWithout(room[:len(list)], k)
			want := slices.Clone(again)
			whole := rest[:cap(rest)]
			for i := range whole {
				whole[i] = mark
			}
			if !slices.Equal(room, before) || !slices.Equal(again, want) {
				t.Fatalf("PeopleWithout %d of %v shares its memory", k, before)
			}
		}
	}
}
