package tests

import (
	"slices"
	"testing"

	"loop.example/disclosurecontrol/impl"
)

// TestDiversityHelpers keeps the tests below from passing because they never meet what they are about.
func TestDiversityHelpers(t *testing.T) {
	met := map[string]int{}
	count := func(cases map[string]bool) {
		for name, is := range cases {
			if is {
				met[name]++
			}
		}
	}
	eachDiversity(func(g grouping) {
		all, sizes, bands, far := len(g.list), append(g.ownSizes(), 0), append(g.ownBands(), 0), append(g.ownFar(), 0)
		most := slices.Max(bands)
		count(map[string]bool{
			"nobody":             all == 0,
			"one person":         all == 1,
			"PeopleMax people":   all == impl.PeopleMax,
			"all pays 0":         all > 1 && ownMany(g.list, 0, 0) == all,
			"all in one band":    all > 1 && sizes[0] < all && ownMany(g.list, 400, 499) == all,
			"a group of a band":  sizes[0] > 1 && bands[0] == 1 && far[0] > 0,
			"each band once":     sizes[0] == manyBands && most == manyBands,
			"each band, not all": sizes[0] < all && bands[0] == manyBands,
			"in proportion":      sizes[0] < all && bands[0] > 1 && far[0] == 0,
			"everybody in one":   all > 1 && sizes[0] == all && most > 1,
			"everybody alone":    all > 1 && slices.Max(sizes) == 1,
			"different groups":   all > 1 && bands[0] != bands[all-1] && bands[0] > 1,
			"most in far groups": all > 1 && slices.Max(far) == 2*(all-1),
			"no steps":           all > 0 && len(g.ladder) == 0,
			"StepsMax steps":     all > 0 && len(g.ladder) == impl.StepsMax,
		})
	})
	eachDiverse(func(g grouping, k int, l int) {
		count(map[string]bool{
			"diverse":          len(g.list) > 0 && k > 1 && l > 1,
			"k and l 1":        len(g.list) > 0 && k == 1 && l == 1,
			"k PeopleMax":      len(g.list) > 0 && k == impl.PeopleMax,
			"l all bands":      len(g.list) > 0 && l == manyBands,
			"diverse by r":     len(g.list) > 0 && l > 1 && g.r != finest && slices.Min(g.by(finest).ownBands()) < l,
			"nobody for many":  len(g.list) == 0 && k == impl.PeopleMax && l == impl.PeopleMax,
			"half, and twice":  len(g.list) == impl.PeopleMax/2 && l > 1,
			"not the coarsest": len(g.list) > 0 && l > 1 && g.r != coarsest(g.ladder) && len(g.ladder) == impl.StepsMax,
		})
	})
	if len(met) != 23 {
		t.Errorf("only met %v", met)
	}
}

func TestPromise69DiverseSize(t *testing.T) {
	eachDiversity(func(g grouping) {
		sizes, most := g.sizes(), g.by(coarsest(g.ladder)).eachBands()
		for k, bands := range g.eachBands() {
			if bands < 1 || bands > 10 || bands > sizes[k] || bands > most[k] {
				t.Errorf("DiverseSize %d of %v is %d for %d people, and %d for the coarsest recoding", k, g, bands, sizes[k], most[k])
			}
		}
	})
}

func TestPromise70DiverseLeast(t *testing.T) {
	eachDiversity(func(g grouping) {
		least, bands := g.leastBands(), g.eachBands()
		if len(bands) == 0 && least != 0 || len(bands) > 0 && least != slices.Min(bands) {
			t.Errorf("DiverseLeast of %v is %d of %v", g, least, bands)
		}
	})
}

func TestPromise71DiverseOk(t *testing.T) {
	eachDiverse(func(g grouping, k int, l int) {
		if least := g.leastBands(); !g.anonymous(k) || least < l && len(g.list) > 0 {
			t.Errorf("DiverseOk of %v holds for %d and %d with DiverseLeast %d, and AnonOk is %v", g, k, l, least, g.anonymous(k))
		}
		if !g.by(coarsest(g.ladder)).diverse(k, l) {
			t.Errorf("DiverseOk of %v holds for %d and %d, but not for the coarsest recoding", g, k, l)
		}
	})
}

func TestPromise72DiverseForLess(t *testing.T) {
	eachDiverse(func(g grouping, k int, l int) {
		for less := range max(k, l) {
			if people, bands := min(less+1, k), min(less+1, l); !g.diverse(people, l) || !g.diverse(k, bands) || !g.diverse(people, bands) {
				t.Errorf("DiverseOk of %v holds for %d and %d, but not with %d people or %d bands", g, k, l, people, bands)
			}
		}
	})
}

func TestPromise73DiverseFar(t *testing.T) {
	eachDiversity(func(g grouping) {
		sizes := g.sizes()
		for k, far := range g.eachFar() {
			if far < 0 || far%2 != 0 || far > 2*len(g.list)*sizes[k] || sizes[k] == len(g.list) && far != 0 {
				t.Errorf("DiverseFar %d of %v is %d for %d people", k, g, far, sizes[k])
			}
		}
	})
}

func TestPromise74FarOfPeopleTwice(t *testing.T) {
	eachDiversity(func(g grouping) {
		twice := g.of(joined(g.list, g.list))
		for k, far := range g.eachFar() {
			want := 4 * far
			if len(twice.list) > impl.PeopleMax {
				want = -1
			}
			if twice.far(k) != want || twice.far(len(g.list)+k) != want {
				t.Errorf("DiverseFar %d of %v is %d, and for all people twice %d and %d", k, g, far, twice.far(k), twice.far(len(g.list)+k))
			}
		}
	})
}

func TestPromise75LeastBandsMovedAndTwice(t *testing.T) {
	eachDiversity(func(g grouping) {
		least := g.leastBands()
		for _, i := range cuts(g.list) {
			if moved := g.of(joined(g.list[i:], g.list[:i])).leastBands(); moved != least {
				t.Errorf("DiverseLeast of %v is %d, and with %d persons moved %d", g, least, i, moved)
			}
		}
		twice := g.of(joined(g.list, g.list))
		if len(twice.list) > impl.PeopleMax {
			least = -1
		}
		if got := twice.leastBands(); got != least {
			t.Errorf("DiverseLeast of %v for all people twice is %d, not %d", g, got, least)
		}
	})
}

func TestPromise76LeastBandsOfCoarsest(t *testing.T) {
	eachDiversity(func(g grouping) {
		if least, most := g.leastBands(), g.by(coarsest(g.ladder)).leastBands(); least < 0 || most < least {
			t.Errorf("DiverseLeast of %v is %d, and of the coarsest recoding %d", g, least, most)
		}
	})
}

func TestPromise77AllPaysZero(t *testing.T) {
	eachDiversity(func(g grouping) {
		g = g.of(unpaid(g.list))
		for k := range g.list {
			if g.bands(k) != 1 || g.far(k) != 0 {
				t.Errorf("DiverseSize %d of %v is %d, and DiverseFar %d", k, g, g.bands(k), g.far(k))
			}
		}
	})
}

func TestPromise78DiversityInAGroup(t *testing.T) {
	eachDiversity(func(g grouping) {
		list, bands, far := g.recoded(t), g.eachBands(), g.eachFar()
		for k, p := range list {
			for other, q := range list {
				if of(p) == of(q) && (bands[k] != bands[other] || far[k] != far[other]) {
					t.Errorf("DiverseSize of %v is %d and %d, and DiverseFar %d and %d, for %d and %d", g, bands[k], bands[other], far[k], far[other], k, other)
				}
			}
		}
	})
}

func TestPromise79FurtherPay(t *testing.T) {
	l, news := &lots{state: 13}, 0
	eachDiversity(func(g grouping) {
		for k, p := range g.list {
			pay := 100*l.below(manyBands) + 99*l.below(2)
			more := g.of(joined(g.list, []impl.Person{withPay(p, pay)}))
			if len(g.list) == impl.PeopleMax {
				if more.bands(k) != -1 {
					t.Errorf("DiverseSize %d of %d people is %d", k, len(more.list), more.bands(k))
				}
				continue
			}
			step := more.bands(k) - g.bands(k)
			if step != 0 && step != 1 || more.bands(len(g.list)) != more.bands(k) {
				t.Errorf("DiverseSize %d of %v with the pay %d is %d more", k, g, pay, step)
			}
			news += step
		}
	})
	if news < 1000 {
		t.Errorf("only %d times there is a new band", news)
	}
}

func TestPromise80DiversePeopleTwice(t *testing.T) {
	eachDiverse(func(g grouping, k int, l int) {
		twice := g.of(joined(g.list, g.list))
		if fits := len(twice.list) <= impl.PeopleMax; twice.diverse(k, l) != fits {
			t.Errorf("DiverseOk of %v holds for %d and %d, and for all people twice it is %v", g, k, l, !fits)
		}
	})
}

func TestPromise81FarOfOneGroup(t *testing.T) {
	met := 0
	eachDiversity(func(g grouping) {
		if len(g.ladder) == 0 || impl.LadderGroups(g.ladder, len(g.ladder)) != 1 {
			return
		}
		g = g.by(coarsest(g.ladder))
		for k, far := range g.eachFar() {
			met++
			if far != 0 {
				t.Errorf("DiverseFar %d of %v is %d", k, g, far)
			}
		}
	})
	if met < 1000 {
		t.Errorf("only %d times all people are in one group", met)
	}
}

// TestDiversityCounted counts anew: the promises alone would also hold for other bands.
func TestDiversityCounted(t *testing.T) {
	eachDiversity(func(g grouping) {
		bands, far := g.ownBands(), g.ownFar()
		if got := g.eachBands(); !slices.Equal(got, bands) {
			t.Errorf("DiverseSize of %v is %v, not %v", g, got, bands)
		}
		if got := g.eachFar(); !slices.Equal(got, far) {
			t.Errorf("DiverseFar of %v is %v, not %v", g, got, far)
		}
		least := slices.Min(append(bands, manyBands))
		if len(bands) == 0 {
			least = 0
		}
		if got := g.leastBands(); got != least {
			t.Errorf("DiverseLeast of %v is %d, not %d", g, got, least)
		}
	})
}

// TestDiverseOkCounted tells the numbers for which the groups are diverse from others, out of range ones among them.
func TestDiverseOkCounted(t *testing.T) {
	eachDiversity(func(g grouping) {
		sizes, bands := g.ownSizes(), g.ownBands()
		pairs := append(g.askedDiversity(), [2]int{0, 1}, [2]int{1, 0}, [2]int{impl.PeopleMax + 1, 1}, [2]int{1, impl.PeopleMax + 1})
		for _, pair := range pairs {
			k, l := pair[0], pair[1]
			if got := g.diverse(k, l); got != ownDiverse(sizes, bands, k, l) {
				t.Errorf("DiverseOk of %v for %d and %d is %v", g, k, l, got)
			}
		}
	})
}

// bandsByHand is people of three bands who are few enough to be counted by hand: by the ladder, the area 3 joins 1 and then both join 0.
func bandsByHand() grouping {
	return grouping{[]impl.Person{
		{Area: 3, Job: 2, Sex: 1, Pay: 99},
		{Area: 1, Job: 2, Sex: 1, Pay: 100},
		{Area: 0, Job: 2, Sex: 0, Pay: 199},
		{Area: 2, Job: 1, Sex: 0, Pay: 999},
		{Area: 1, Job: 2, Sex: 1, Pay: 0},
		{Area: 2, Job: 1, Sex: 0, Pay: 900},
	}, [][]int{{0, 1, 2, 1}, {0, 0, 2, 0}}, finest}
}

func TestDiversityByHand(t *testing.T) {
	hand := bandsByHand()
	for _, c := range []struct {
		r          impl.Recode
		bands, far []int
		most       int
	}{
		{impl.Recode{}, []int{1, 2, 1, 1, 2, 1}, []int{8, 8, 8, 16, 8, 16}, 1},
		{impl.Recode{Job: 1, Sex: 1}, []int{1, 2, 1, 1, 2, 1}, []int{8, 8, 8, 16, 8, 16}, 1},
		{impl.Recode{Area: 1}, []int{2, 2, 1, 1, 2, 1}, []int{12, 12, 8, 16, 12, 16}, 1},
		{impl.Recode{Area: 2, Job: 1}, []int{2, 2, 1, 1, 2, 1}, []int{12, 12, 8, 16, 12, 16}, 1},
		{impl.Recode{Area: 2, Sex: 1}, []int{2, 2, 2, 1, 2, 1}, []int{16, 16, 16, 16, 16, 16}, 2},
		{impl.Recode{Area: 2, Job: 1, Sex: 1}, []int{2, 2, 2, 1, 2, 1}, []int{16, 16, 16, 16, 16, 16}, 2},
	} {
		g := hand.by(c.r)
		if !slices.Equal(g.eachBands(), c.bands) || !slices.Equal(g.eachFar(), c.far) || g.leastBands() != 1 {
			t.Errorf("%v: %v, %v, %d", c.r, g.eachBands(), g.eachFar(), g.leastBands())
		}
		for k := 1; k <= 3; k++ {
			if g.diverse(k, 1) != (k <= c.most) || g.diverse(k, 2) {
				t.Errorf("%v: DiverseOk for %d is %v with one band, and %v with two", c.r, k, g.diverse(k, 1), g.diverse(k, 2))
			}
		}
	}
	first := hand.of(joined(hand.list[:3], hand.list[4:5])).by(coarsest(hand.ladder))
	if !first.diverse(4, 2) || first.diverse(5, 2) || first.diverse(4, 3) || first.leastBands() != 2 {
		t.Errorf("one group of two bands: %d", first.leastBands())
	}
}

func TestDiversityOfNobody(t *testing.T) {
	eachRecoding(func(ladder [][]int, r impl.Recode) {
		for _, nobody := range [][]impl.Person{nil, {}} {
			g := grouping{nobody, ladder, r}
			if g.leastBands() != 0 || !g.diverse(1, 1) || !g.diverse(impl.PeopleMax, impl.PeopleMax) || !g.diverse(1, manyBands+1) {
				t.Fatalf("nobody with %v and %v: %d", ladder, r, g.leastBands())
			}
			if g.diverse(0, 1) || g.diverse(1, 0) || g.diverse(impl.PeopleMax+1, 1) || g.diverse(1, impl.PeopleMax+1) {
				t.Errorf("nobody with %v and %v is diverse for numbers out of range", ladder, r)
			}
			for _, k := range badIndexes(g) {
				if g.bands(k) != -1 || g.far(k) != -1 {
					t.Errorf("DiverseSize %d of nobody is %d, and DiverseFar %d", k, g.bands(k), g.far(k))
				}
			}
		}
	})
}

func TestDiversityOfOne(t *testing.T) {
	for _, p := range everybodyAlone() {
		eachRecoding(func(ladder [][]int, r impl.Recode) {
			g := grouping{[]impl.Person{p}, ladder, r}
			if g.bands(0) != 1 || g.far(0) != 0 || g.leastBands() != 1 || !g.diverse(1, 1) || g.diverse(1, 2) || g.diverse(2, 1) {
				t.Fatalf("%v: %d, %d, %d", g, g.bands(0), g.far(0), g.leastBands())
			}
		})
	}
}

// TestAllPeopleInOneBand has no group with a second band, whatever its size, and all groups in proportion.
func TestAllPeopleInOneBand(t *testing.T) {
	eachGrouping(func(g grouping) {
		band := len(g.list) % manyBands
		g = g.of(paid(g.list, func(k int) int { return 100*band + 33*(k%4) }))
		for k := range g.list {
			if g.bands(k) != 1 || g.far(k) != 0 {
				t.Errorf("DiverseSize %d of %v is %d, and DiverseFar %d", k, g, g.bands(k), g.far(k))
			}
		}
		if len(g.list) == 0 {
			return
		}
		if least := g.least(); g.leastBands() != 1 || !g.diverse(least, 1) || g.diverse(least, 2) || g.diverse(1, 2) || g.diverse(least+1, 1) {
			t.Errorf("DiverseLeast of %v is %d, and GroupLeast %d", g, g.leastBands(), least)
		}
	})
}

// TestGroupInOneBand has a group with one band among people of two bands.
func TestGroupInOneBand(t *testing.T) {
	g := alike([]impl.Person{{Pay: 300}, {Pay: 399}, {Pay: 350}, {Sex: 1, Pay: 300}, {Sex: 1, Pay: 400}})
	if !slices.Equal(g.eachBands(), []int{1, 1, 1, 2, 2}) || !slices.Equal(g.eachFar(), []int{6, 6, 6, 6, 6}) || g.leastBands() != 1 {
		t.Errorf("%v, %v, %d", g.eachBands(), g.eachFar(), g.leastBands())
	}
	if !g.diverse(2, 1) || g.diverse(2, 2) || g.diverse(3, 1) {
		t.Errorf("DiverseOk is %v, %v, %v", g.diverse(2, 1), g.diverse(2, 2), g.diverse(3, 1))
	}
}

func TestEachBandOnce(t *testing.T) {
	eachRecoding(func(ladder [][]int, r impl.Recode) {
		for many := 1; many <= manyBands; many++ {
			g := grouping{eachBandOnce()[:many], ladder, r}
			if g.bands(0) != many || g.bands(many-1) != many || g.leastBands() != many || g.far(0) != 0 {
				t.Errorf("%v: %d, %d, %d", g, g.bands(0), g.leastBands(), g.far(0))
			}
			if !g.diverse(many, many) || g.diverse(many, many+1) || g.diverse(many+1, many) {
				t.Errorf("%v is not diverse just for %d", g, many)
			}
		}
	})
}

// TestEndsOfBands has the least and the greatest pay of each band.
func TestEndsOfBands(t *testing.T) {
	for low := 0; low <= impl.PayMax; low += 100 {
		same := alike([]impl.Person{{Pay: low}, {Pay: low + 99}, {Sex: 1, Pay: low + 50}})
		if !slices.Equal(same.eachBands(), []int{1, 1, 1}) || !slices.Equal(same.eachFar(), []int{0, 0, 0}) {
			t.Errorf("%v: %v, %v", same, same.eachBands(), same.eachFar())
		}
		if low == 0 {
			continue
		}
		next := alike([]impl.Person{{Pay: low - 1}, {Pay: low}, {Sex: 1, Pay: low}})
		if !slices.Equal(next.eachBands(), []int{2, 2, 1}) || !slices.Equal(next.eachFar(), []int{2, 2, 2}) {
			t.Errorf("%v: %v, %v", next, next.eachBands(), next.eachFar())
		}
	}
}

// TestBandsInProportion has groups of which none is all people, and changes one band of one person.
func TestBandsInProportion(t *testing.T) {
	g := alike(inProportion())
	for k := range g.list {
		if g.bands(k) != 2 || g.far(k) != 0 {
			t.Errorf("DiverseSize %d of %v is %d, and DiverseFar %d", k, g, g.bands(k), g.far(k))
		}
		other := g.of(joined(g.list))
		other.list[k].Pay = 0
		for at, far := range other.eachFar() {
			if far == 0 {
				t.Errorf("DiverseFar %d of %v is 0", at, other)
			}
		}
	}
}

func TestDiversityOfAllAloneAndOneGroup(t *testing.T) {
	alone := alike(everybodyAlone())
	if !alone.diverse(1, 1) || alone.diverse(1, 2) || alone.leastBands() != 1 || slices.Max(alone.eachBands()) != 1 {
		t.Errorf("all alone: %v", alone.eachBands())
	}
	eachRecoding(func(ladder [][]int, r impl.Recode) {
		g := grouping{oneGroup(), ladder, r}
		if g.bands(0) != manyBands || g.bands(impl.PeopleMax-1) != manyBands || g.far(0) != 0 || g.far(impl.PeopleMax-1) != 0 {
			t.Fatalf("one group of %v: %v, %v", g, g.eachBands(), g.eachFar())
		}
		if !g.diverse(impl.PeopleMax, manyBands) || g.diverse(impl.PeopleMax, manyBands+1) || g.diverse(1, impl.PeopleMax) {
			t.Errorf("one group of %v: DiverseLeast %d", g, g.leastBands())
		}
	})
}

// TestGreatestDiverseFar has two halves of PeopleMax people without a common band.
func TestGreatestDiverseFar(t *testing.T) {
	half := impl.PeopleMax / 2
	g := alike(joined(samePeople(impl.Person{}, half), samePeople(impl.Person{Sex: 1, Pay: impl.PayMax}, half)))
	for k, far := range g.eachFar() {
		if far != half*impl.PeopleMax {
			t.Errorf("DiverseFar %d is %d", k, far)
		}
	}
	one := alike(joined(samePeople(impl.Person{}, impl.PeopleMax-1), []impl.Person{{Job: 3, Pay: impl.PayMax}}))
	if got, last := one.far(0), one.far(impl.PeopleMax-1); got != 2*(impl.PeopleMax-1) || last != 2*(impl.PeopleMax-1) {
		t.Errorf("DiverseFar is %d and %d", got, last)
	}
}

func TestDiversityOfInvalidPeople(t *testing.T) {
	for _, list := range invalidPeople() {
		for _, ladder := range [][][]int{{}, slices.Repeat([][]int{{0, 0, 0, 0}}, impl.StepsMax)} {
			for _, r := range everyRecoding(ladder) {
				expectNoDiversity(t, grouping{list, ladder, r})
			}
		}
	}
}

func TestDiversityOfInvalidLadders(t *testing.T) {
	for _, ladder := range invalidLadders() {
		for _, list := range [][]impl.Person{nil, {{Area: 1, Job: 2}}, oneGroup()} {
			for _, r := range []impl.Recode{finest, {Area: 1}, {Area: impl.StepsMax}, {Job: 1, Sex: 1}, coarsest(ladder)} {
				expectNoDiversity(t, grouping{list, ladder, r})
			}
		}
	}
}

func TestDiversityOfInvalidRecodings(t *testing.T) {
	lists := [][]impl.Person{nil, {{Area: 1, Job: 2, Sex: 1}}, everybodyAlone(), oneGroup()}
	for i, ladder := range everyLadder() {
		for _, bad := range badRecodings(ladder) {
			expectNoDiversity(t, grouping{lists[i%len(lists)], ladder, bad})
		}
	}
}

func TestDiversityNoIndex(t *testing.T) {
	eachDiversity(func(g grouping) {
		for _, k := range badIndexes(g) {
			if g.bands(k) != -1 || g.far(k) != -1 {
				t.Errorf("DiverseSize %d of %v is %d, and DiverseFar %d", k, g, g.bands(k), g.far(k))
			}
		}
	})
}

func TestDiverseOkOutOfRange(t *testing.T) {
	eachDiversity(func(g grouping) {
		for _, bad := range badNeeds() {
			if g.diverse(bad, 1) || g.diverse(1, bad) || g.diverse(bad, bad) {
				t.Errorf("DiverseOk of %v holds for %d", g, bad)
			}
		}
	})
}

// TestDiversityArgumentsStay also has each function called just once, as a change that is made twice may undo itself.
func TestDiversityArgumentsStay(t *testing.T) {
	calls := []func(g grouping){
		grouping.callDiversity,
		func(g grouping) { g.bands(0) },
		func(g grouping) { g.leastBands() },
		func(g grouping) { g.diverse(1, 1) },
		func(g grouping) { g.far(0) },
	}
	for _, call := range calls {
		eachDiversity(func(g grouping) { expectStays(t, g, call) })
		eachInvalidGrouping(func(g grouping) { expectStays(t, g, call) })
	}
}

// TestDiversityKeepsNothing overwrites the arguments of a call and expects that a later call with equal ones tells the same.
// The results are numbers and flags, so that memory could only be shared by being kept.
func TestDiversityKeepsNothing(t *testing.T) {
	eachDiversity(func(g grouping) {
		if len(g.list) == 0 {
			return
		}
		last := len(g.list) - 1
		used := grouping{joined(g.list), copied(g.ladder), g.r}
		bands, least, far := used.bands(last), used.leastBands(), used.far(last)
		diverse := used.diverse(1, least)
		for k := range used.list {
			used.list[k] = impl.Person{Area: k % impl.Codes, Pay: impl.PayMax - k}
		}
		for _, step := range used.ladder {
			fill(step, 0)
		}
		if g.bands(last) != bands || g.leastBands() != least || g.far(last) != far || g.diverse(1, least) != diverse {
			t.Errorf("%v: %d, %d and %d became %d, %d and %d", g, bands, least, far, g.bands(last), g.leastBands(), g.far(last))
		}
	})
}
