package tests

import (
	"math"
	"slices"
	"testing"

	"loop.example/disclosurecontrol/impl"
)

// TestGroupHelpers keeps the tests below from passing because they never meet what they are about.
func TestGroupHelpers(t *testing.T) {
	met := map[string]int{}
	eachGrouping(func(g grouping) {
		sizes := g.ownSizes()
		slices.Sort(sizes)
		several := len(sizes) > 1
		for name, is := range map[string]bool{
			"nobody":              len(sizes) == 0,
			"one person":          len(sizes) == 1,
			"PeopleMax people":    len(sizes) == impl.PeopleMax,
			"half of PeopleMax":   len(sizes) == impl.PeopleMax/2,
			"everybody alone":     several && sizes[len(sizes)-1] == 1,
			"everybody in one":    several && sizes[0] == len(sizes),
			"one alone of many":   several && sizes[0] == 1 && sizes[len(sizes)-1] > 1,
			"nobody alone":        several && sizes[0] > 1 && sizes[0] < len(sizes),
			"no steps":            len(g.ladder) == 0,
			"StepsMax steps":      len(g.ladder) == impl.StepsMax,
			"a level between":     g.r.Area > 0 && g.r.Area < len(g.ladder),
			"the coarsest of all": len(g.ladder) == impl.StepsMax && g.r == coarsest(g.ladder),
		} {
			if is {
				met[name]++
			}
		}
	})
	if len(met) != 12 {
		t.Errorf("only met %v", met)
	}
}

func TestPromise29RecodeValid(t *testing.T) {
	eachRecoding(func(ladder [][]int, r impl.Recode) {
		if !impl.RecodeValid(ladder, r) || !impl.RecodeValid(ladder, finest) {
			t.Fatalf("%v or %v is not valid for %v", r, finest, ladder)
		}
		area, sex := r, r
		area.Area = len(ladder) + 1
		sex.Sex = 2
		if impl.RecodeValid(ladder, area) || impl.RecodeValid(ladder, sex) {
			t.Errorf("%v or %v is valid for %v", area, sex, ladder)
		}
	})
}

// TestRecodeValidOfEveryNumber tells all valid recodings from those with other small numbers.
func TestRecodeValidOfEveryNumber(t *testing.T) {
	eachSmallRecoding(func(ladder [][]int, r impl.Recode, valid bool) {
		if got := impl.RecodeValid(ladder, r); got != valid {
			t.Errorf("RecodeValid of %v and %v is %v", ladder, r, got)
		}
	})
}

func TestPromise30RecodePeople(t *testing.T) {
	eachGrouping(func(g grouping) {
		list := g.recoded(t)
		if len(list) != len(g.list) || !impl.PeopleValid(list) {
			t.Fatalf("RecodePeople of %v is %v", g, list)
		}
		for k, p := range g.list {
			if q := list[k]; q.Pay != p.Pay || q.Area > p.Area || q.Job > p.Job || q.Sex > p.Sex {
				t.Errorf("RecodePeople of %v makes %v of %v", g, q, p)
			}
		}
		if again := g.of(list).recoded(t); !slices.Equal(again, list) {
			t.Errorf("RecodePeople of %v is %v, and once more %v", g, list, again)
		}
	})
}

func TestPromise31FinestAndCoarsest(t *testing.T) {
	eachGrouping(func(g grouping) {
		if list := g.by(finest).recoded(t); !slices.Equal(list, g.list) {
			t.Errorf("RecodePeople of %v without recoding is %v", g, list)
		}
		for _, p := range g.by(impl.Recode{Area: g.r.Area, Job: 1, Sex: 1}).recoded(t) {
			if p.Job != 0 || p.Sex != 0 {
				t.Errorf("RecodePeople of %v with Job and Sex 1 has %v", g, p)
			}
		}
	})
}

func TestPromise32FinerFirst(t *testing.T) {
	eachGrouping(func(g grouping) {
		want := g.recoded(t)
		for _, r := range everyRecoding(g.ladder) {
			if !impl.RecodeFiner(g.ladder, r, g.r) {
				continue
			}
			if got := g.of(g.by(r).recoded(t)).recoded(t); !slices.Equal(got, want) {
				t.Errorf("RecodePeople of %v is %v, and after %v %v", g, want, r, got)
			}
		}
	})
}

func TestPromise33RecodeFiner(t *testing.T) {
	eachRecoding(func(ladder [][]int, a impl.Recode) {
		for _, b := range everyRecoding(ladder) {
			if got := impl.RecodeFiner(ladder, a, b); got != finer(a, b) {
				t.Fatalf("RecodeFiner of %v and %v for %v is %v", a, b, ladder, got)
			}
			if !finer(a, b) {
				continue
			}
			if impl.RecodeFiner(ladder, b, a) != (a == b) || !impl.RecodeFiner(ladder, a, a) || !impl.RecodeFiner(ladder, finest, b) {
				t.Errorf("RecodeFiner of %v and %v for %v: exchanged, the first one twice, or %v first", a, b, ladder, finest)
			}
		}
	})
}

func TestPromise34GroupSize(t *testing.T) {
	eachGrouping(func(g grouping) {
		list := g.recoded(t)
		for k, size := range g.sizes() {
			if size < 1 || size > len(g.list) || size != many(list, of(list[k])) {
				t.Errorf("GroupSize %d of %v is %d", k, g, size)
			}
		}
	})
}

func TestPromise35SizeOfFinestAndCoarsest(t *testing.T) {
	eachGrouping(func(g grouping) {
		small, large := g.by(finest).sizes(), g.by(coarsest(g.ladder)).sizes()
		for k, size := range g.sizes() {
			if size > large[k] || size < small[k] {
				t.Errorf("GroupSize %d of %v is %d, not in %d to %d", k, g, size, small[k], large[k])
			}
		}
	})
}

func TestPromise36GroupLeast(t *testing.T) {
	eachGrouping(func(g grouping) {
		least, sizes := g.least(), g.sizes()
		if len(sizes) == 0 && least != 0 || len(sizes) > 0 && least != slices.Min(sizes) {
			t.Errorf("GroupLeast of %v is %d of %v", g, least, sizes)
		}
		if most := g.by(coarsest(g.ladder)).least(); most < least {
			t.Errorf("GroupLeast of %v is %d, and of the coarsest recoding %d", g, least, most)
		}
	})
}

func TestPromise37GroupMany(t *testing.T) {
	eachGrouping(func(g grouping) {
		groups := g.groups()
		if groups < 0 || groups*g.least() > len(g.list) || groups > len(g.list) || g.by(coarsest(g.ladder)).groups() > groups {
			t.Errorf("GroupMany of %v is %d", g, groups)
		}
	})
}

func TestPromise38SharesOfGroups(t *testing.T) {
	met := 0
	eachGrouping(func(g grouping) {
		sum := 0
		for _, size := range g.sizes() {
			if size > 10 {
				return
			}
			sum += 2520 / size
		}
		met++
		if sum != 2520*g.groups() {
			t.Errorf("GroupMany of %v is %d for the shares %d", g, g.groups(), sum)
		}
	})
	if met < 1000 {
		t.Errorf("only %d times no group has more than 10 people", met)
	}
}

func TestPromise39GroupUniques(t *testing.T) {
	eachGrouping(func(g grouping) {
		alone := 0
		for _, size := range g.sizes() {
			if size == 1 {
				alone++
			}
		}
		if got := g.uniques(); got != alone || got > g.groups() || g.least() > 1 && got != 0 {
			t.Errorf("GroupUniques of %v is %d, not %d", g, got, alone)
		}
	})
}

func TestPromise40PeopleTwice(t *testing.T) {
	eachGrouping(func(g grouping) {
		twice := g.of(joined(g.list, g.list))
		uniques, least := 0, 2*g.least()
		if len(g.list) > impl.PeopleMax/2 {
			uniques, least = -1, -1
		}
		if twice.uniques() != uniques || twice.least() != least {
			t.Errorf("twice the people of %v: %d alone, and at least %d", g, twice.uniques(), twice.least())
		}
	})
}

func TestPromise41FirstPersonsMoved(t *testing.T) {
	eachGrouping(func(g grouping) {
		for _, i := range cuts(g.list) {
			moved := g.of(joined(g.list[i:], g.list[:i]))
			if moved.least() != g.least() || moved.groups() != g.groups() || moved.uniques() != g.uniques() {
				t.Errorf("%v with %d persons moved: other groups", g, i)
			}
		}
	})
}

func TestPromise42PersonOnceMore(t *testing.T) {
	eachGrouping(func(g grouping) {
		for k, p := range g.list {
			more := g.of(joined(g.list, []impl.Person{p}))
			want := g.size(k) + 1
			if len(g.list) == impl.PeopleMax {
				want = -1
			}
			if more.size(k) != want || more.size(len(g.list)) != want {
				t.Errorf("GroupSize %d of %v with this person once more is %d", k, g, more.size(k))
			}
		}
	})
}

func TestPromise43SizeInAGroup(t *testing.T) {
	eachGrouping(func(g grouping) {
		list, sizes := g.recoded(t), g.sizes()
		for k, p := range list {
			members := 0
			for other, q := range list {
				if of(q) != of(p) {
					continue
				}
				members++
				if sizes[other] != sizes[k] {
					t.Errorf("GroupSize %d of %v is %d, and %d is %d", k, g, sizes[k], other, sizes[other])
				}
			}
			if members != sizes[k] {
				t.Errorf("GroupSize %d of %v is %d, not %d", k, g, sizes[k], members)
			}
		}
	})
}

func TestPromise44FurtherPerson(t *testing.T) {
	l := &lots{state: 7}
	news := 0
	eachGrouping(func(g grouping) {
		for range 3 {
			more := g.of(joined(g.list, l.people(1)))
			if len(g.list) == impl.PeopleMax {
				if more.groups() != -1 {
					t.Errorf("GroupMany of %d people is %d", len(more.list), more.groups())
				}
				continue
			}
			step := more.groups() - g.groups()
			if step != 0 && step != 1 {
				t.Errorf("GroupMany of %v is %d more", more, step)
			}
			news += step
		}
	})
	if news < 1000 {
		t.Errorf("only %d times there is a new group", news)
	}
}

func TestPromise45AllAlone(t *testing.T) {
	eachGrouping(func(g grouping) {
		uniques, all := g.uniques(), len(g.list)
		if (uniques == all) != (g.groups() == all) || (g.least() == 1) != (uniques > 0) {
			t.Errorf("%v: %d alone, %d groups, at least %d", g, uniques, g.groups(), g.least())
		}
	})
}

func TestPromise46OneCodeAfterTheOther(t *testing.T) {
	eachGrouping(func(g grouping) {
		list := g.by(impl.Recode{Job: g.r.Job}).recoded(t)
		list = g.of(list).by(impl.Recode{Sex: g.r.Sex}).recoded(t)
		list = g.of(list).by(impl.Recode{Area: g.r.Area}).recoded(t)
		if want := g.recoded(t); !slices.Equal(list, want) {
			t.Errorf("RecodePeople of %v is %v, and one code after the other %v", g, want, list)
		}
	})
}

func TestPromise47ManyAndPayOfRecoded(t *testing.T) {
	eachGrouping(func(g grouping) {
		list := g.recoded(t)
		if many(list, anyone) != many(g.list, anyone) || pay(list, anyone) != pay(g.list, anyone) {
			t.Errorf("RecodePeople of %v changes PeopleMany or PeoplePay", g)
		}
		want := 0
		for area := range impl.Codes {
			if codeAt(g.ladder, g.r.Area, area) == 0 {
				want += many(g.list, asked{area, -1, -1})
			}
		}
		if got := many(list, asked{0, -1, -1}); got != want {
			t.Errorf("RecodePeople of %v has %d people in the area 0, not %d", g, got, want)
		}
	})
}

func TestPromise48LeastWithOneMore(t *testing.T) {
	eachGrouping(func(g grouping) {
		least := g.least()
		for _, p := range g.list {
			more := g.of(joined(g.list, []impl.Person{p})).least()
			if len(g.list) == impl.PeopleMax {
				if more != -1 {
					t.Errorf("GroupLeast of %d people is %d", len(g.list)+1, more)
				}
			} else if more < least || more > least+1 {
				t.Errorf("GroupLeast of %v is %d, and with %v once more %d", g, least, p, more)
			}
		}
	})
}

func TestPromise49LesserNumbers(t *testing.T) {
	eachRecoding(func(ladder [][]int, b impl.Recode) {
		for _, a := range everyRecoding(ladder) {
			if !impl.RecodeFiner(ladder, a, b) {
				continue
			}
			for _, c := range everyRecoding(ladder) {
				m := impl.Recode{Area: min(a.Area, c.Area), Job: min(a.Job, c.Job), Sex: min(a.Sex, c.Sex)}
				if !impl.RecodeFiner(ladder, m, c) || !impl.RecodeFiner(ladder, m, a) || !impl.RecodeFiner(ladder, m, b) {
					t.Errorf("%v is not finer than %v, %v and %v for %v", m, a, b, c, ladder)
				}
			}
		}
	})
}

// TestGroupsCounted recodes and counts anew: the promises alone would also hold for other groups.
func TestGroupsCounted(t *testing.T) {
	eachGrouping(func(g grouping) {
		if got, want := g.recoded(t), g.ownRecoded(); !slices.Equal(got, want) {
			t.Errorf("RecodePeople of %v is %v, not %v", g, got, want)
		}
		sizes, groups := g.ownSizes(), map[asked]bool{}
		for _, p := range g.ownRecoded() {
			groups[of(p)] = true
		}
		if got := g.sizes(); !slices.Equal(got, sizes) {
			t.Errorf("GroupSize of %v is %v, not %v", g, got, sizes)
		}
		if got := g.groups(); got != len(groups) {
			t.Errorf("GroupMany of %v is %d, not %d", g, got, len(groups))
		}
	})
}

func TestGroupsByHand(t *testing.T) {
	hand := byHand()
	for _, c := range []struct {
		r                      impl.Recode
		sizes                  []int
		least, groups, uniques int
	}{
		{impl.Recode{}, []int{1, 2, 1, 1, 2}, 1, 4, 3},
		{impl.Recode{Job: 1, Sex: 1}, []int{1, 2, 1, 1, 2}, 1, 4, 3},
		{impl.Recode{Area: 1}, []int{3, 3, 1, 1, 3}, 1, 3, 2},
		{impl.Recode{Area: 2}, []int{3, 3, 1, 1, 3}, 1, 3, 2},
		{impl.Recode{Area: 2, Job: 1}, []int{3, 3, 1, 1, 3}, 1, 3, 2},
		{impl.Recode{Area: 2, Sex: 1}, []int{4, 4, 4, 1, 4}, 1, 2, 1},
		{impl.Recode{Area: 2, Job: 1, Sex: 1}, []int{4, 4, 4, 1, 4}, 1, 2, 1},
	} {
		g := hand.by(c.r)
		if !slices.Equal(g.sizes(), c.sizes) || g.least() != c.least || g.groups() != c.groups || g.uniques() != c.uniques {
			t.Errorf("%v: %v, %d, %d, %d", c.r, g.sizes(), g.least(), g.groups(), g.uniques())
		}
	}
	recoded := hand.by(impl.Recode{Area: 1, Job: 1}).recoded(t)
	if want := (impl.Person{Area: 1, Job: 0, Sex: 1, Pay: 10}); recoded[0] != want {
		t.Errorf("RecodePeople makes %v of %v", recoded[0], hand.list[0])
	}
}

func TestGroupsOfNobody(t *testing.T) {
	eachRecoding(func(ladder [][]int, r impl.Recode) {
		for _, nobody := range [][]impl.Person{nil, {}} {
			g := grouping{nobody, ladder, r}
			if len(g.recoded(t)) != 0 || g.least() != 0 || g.groups() != 0 || g.uniques() != 0 {
				t.Fatalf("nobody with %v and %v: %d, %d, %d", ladder, r, g.least(), g.groups(), g.uniques())
			}
			for _, k := range badIndexes(g) {
				if g.size(k) != -1 {
					t.Errorf("GroupSize %d of nobody is %d", k, g.size(k))
				}
			}
		}
	})
}

func TestGroupsOfOne(t *testing.T) {
	for _, p := range everybodyAlone() {
		eachRecoding(func(ladder [][]int, r impl.Recode) {
			g := grouping{[]impl.Person{p}, ladder, r}
			if g.size(0) != 1 || g.least() != 1 || g.groups() != 1 || g.uniques() != 1 {
				t.Fatalf("%v: %d, %d, %d, %d", g, g.size(0), g.least(), g.groups(), g.uniques())
			}
		})
	}
}

func TestEverybodyAloneAndInOneGroup(t *testing.T) {
	alone := grouping{everybodyAlone(), nil, finest}
	if all := len(alone.list); alone.least() != 1 || alone.groups() != all || alone.uniques() != all {
		t.Errorf("all alone: %d, %d, %d", alone.least(), alone.groups(), alone.uniques())
	}
	eachRecoding(func(ladder [][]int, r impl.Recode) {
		g := grouping{oneGroup(), ladder, r}
		if g.size(0) != impl.PeopleMax || g.least() != impl.PeopleMax || g.groups() != 1 || g.uniques() != 0 {
			t.Fatalf("one group of %v: %d, %d, %d, %d", g, g.size(0), g.least(), g.groups(), g.uniques())
		}
	})
}

// badIndexes returns indexes that no person of a grouping has.
func badIndexes(g grouping) []int {
	return []int{-1, -2, len(g.list), len(g.list) + 1, impl.PeopleMax, math.MinInt, math.MaxInt}
}

// expectRefused expects that all functions of groups tell that an argument is invalid.
func expectRefused(t *testing.T, g grouping) {
	t.Helper()
	if list, ok := impl.RecodePeople(g.list, g.ladder, g.r); ok || len(list) != 0 {
		t.Errorf("RecodePeople of %v is %v, %v", g, list, ok)
	}
	if g.least() != -1 || g.groups() != -1 || g.uniques() != -1 {
		t.Errorf("%v: %d, %d, %d", g, g.least(), g.groups(), g.uniques())
	}
	for _, k := range []int{-1, 0, 1, len(g.list) - 1, len(g.list), impl.PeopleMax} {
		if got := g.size(k); got != -1 {
			t.Errorf("GroupSize %d of %v is %d", k, g, got)
		}
	}
}

func TestGroupsOfInvalidPeople(t *testing.T) {
	for _, list := range invalidPeople() {
		for _, ladder := range [][][]int{{}, {tellsItself()}, slices.Repeat([][]int{{0, 0, 0, 0}}, impl.StepsMax)} {
			for _, r := range everyRecoding(ladder) {
				expectRefused(t, grouping{list, ladder, r})
			}
		}
	}
}

func TestGroupsOfInvalidLadders(t *testing.T) {
	for _, ladder := range invalidLadders() {
		for _, r := range []impl.Recode{finest, {Area: 1}, {Area: impl.StepsMax}, {Job: 1, Sex: 1}, coarsest(ladder)} {
			if impl.RecodeValid(ladder, r) || impl.RecodeFiner(ladder, r, r) || impl.RecodeFiner(ladder, finest, r) {
				t.Errorf("%v is valid for %v", r, ladder)
			}
			for _, list := range [][]impl.Person{nil, {{Area: 1, Job: 2}}, oneGroup()} {
				expectRefused(t, grouping{list, ladder, r})
			}
		}
	}
}

func TestGroupsOfInvalidRecodings(t *testing.T) {
	lists := [][]impl.Person{nil, {{Area: 1, Job: 2, Sex: 1}}, everybodyAlone(), oneGroup()}
	for i, ladder := range everyLadder() {
		for _, bad := range badRecodings(ladder) {
			if impl.RecodeValid(ladder, bad) {
				t.Errorf("%v is valid for %v", bad, ladder)
			}
			for _, r := range append(everyRecoding(ladder), bad) {
				if impl.RecodeFiner(ladder, bad, r) || impl.RecodeFiner(ladder, r, bad) {
					t.Errorf("RecodeFiner takes %v and %v for %v", bad, r, ladder)
				}
			}
			expectRefused(t, grouping{lists[i%len(lists)], ladder, bad})
		}
	}
}

func TestGroupSizeNoIndex(t *testing.T) {
	eachGrouping(func(g grouping) {
		for _, k := range badIndexes(g) {
			if got := g.size(k); got != -1 {
				t.Errorf("GroupSize %d of %v is %d", k, g, got)
			}
		}
	})
}

// callAll calls all functions of groups, with all indexes and some that do not exist.
func (g grouping) callAll() {
	impl.RecodeValid(g.ladder, g.r)
	impl.RecodePeople(g.list, g.ladder, g.r)
	impl.RecodeFiner(g.ladder, g.r, finest)
	impl.RecodeFiner(g.ladder, finest, g.r)
	g.least()
	g.groups()
	g.uniques()
	for k := -1; k <= min(len(g.list), impl.PeopleMax+1); k++ {
		g.size(k)
	}
}

func TestGroupArgumentsStay(t *testing.T) {
	eachGrouping(func(g grouping) {
		expectStays(t, g, grouping.callAll)
	})
	eachInvalidGrouping(func(g grouping) {
		expectStays(t, g, grouping.callAll)
	})
}

func TestRecodePeopleIsNewMemory(t *testing.T) {
	eachGrouping(func(g grouping) {
		expectNewMemory(t, g, func(g grouping) []impl.Person { return g.recoded(t) })
	})
}
