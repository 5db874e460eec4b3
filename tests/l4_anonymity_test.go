package tests

import (
	"math"
	"slices"
	"testing"

	"loop.example/disclosurecontrol/impl"
)

// TestAnonymityHelpers keeps the tests below from passing because they never meet what they are about.
func TestAnonymityHelpers(t *testing.T) {
	met := map[string]int{}
	count := func(cases map[string]bool) {
		for name, is := range cases {
			if is {
				met[name]++
			}
		}
	}
	eachNeed(func(g grouping, k int) {
		all, drop := len(g.list), g.ownDrop(k)
		count(map[string]bool{
			"nobody":               all == 0,
			"one person":           all == 1,
			"PeopleMax people":     all == impl.PeopleMax,
			"k 1":                  all > 0 && k == 1,
			"k PeopleMax":          all == impl.PeopleMax && k == impl.PeopleMax,
			"k all":                all > 1 && k == all,
			"k greater than all":   all > 0 && k > all,
			"all are dropped":      all >= k && drop == all,
			"some are dropped":     drop > 0 && drop < all,
			"none are dropped":     k > 1 && all > 0 && drop == 0,
			"anonymous on the way": k > 1 && all > 0 && drop == 0 && g.r != finest && g.r != coarsest(g.ladder) && g.by(finest).ownDrop(k) > 0,
			"kept of few":          k > 2 && drop > 0 && drop < all && len(g.ladder) == impl.StepsMax,
		})
	})
	eachChoice(func(g grouping, k int, drop int) {
		fitting := g.ownFitting(k, drop)
		several := len(fitting) > 1 && fitting[0] != finest && ownCost(fitting[0]) == ownCost(fitting[1])
		count(map[string]bool{
			"no recoding":        len(fitting) == 0,
			"only the coarsest":  len(fitting) == 1 && len(g.ladder) > 0,
			"drop 0":             drop == 0 && k > 1 && len(fitting) > 0 && fitting[0] != finest,
			"drop matters":       drop > 0 && drop < len(g.list) && k <= len(g.list) && len(fitting) > 0 && g.by(fitting[0]).ownDrop(k) > 0,
			"drop all":           drop == len(g.list) && k > 1 && drop > 0,
			"same cost":          several,
			"same cost, area":    several && fitting[0].Area != fitting[1].Area,
			"same cost and area": several && fitting[0].Area == fitting[1].Area,
			"area at best":       len(fitting) > 0 && fitting[0].Area > 1,
			"no steps":           len(g.ladder) == 0,
			"StepsMax steps":     len(g.ladder) == impl.StepsMax,
		})
	})
	if len(met) != 23 {
		t.Errorf("only met %v", met)
	}
}

func TestPromise50AnonDrop(t *testing.T) {
	eachAnonymity(func(g grouping) {
		sizes, last := g.sizes(), 0
		for k := 1; k <= impl.PeopleMax; k++ {
			want := 0
			for _, size := range sizes {
				if size < k {
					want++
				}
			}
			drop := g.drop(k)
			if drop != want || drop < last || k == 1 && drop != 0 {
				t.Errorf("AnonDrop of %v for %d is %d, not %d; one less: %d", g, k, drop, want, last)
			}
			last = drop
		}
	})
}

func TestPromise51DropOfFinestAndCoarsest(t *testing.T) {
	eachNeed(func(g grouping, k int) {
		drop, least, most := g.drop(k), g.by(coarsest(g.ladder)).drop(k), g.by(finest).drop(k)
		if drop < least || drop > most {
			t.Errorf("AnonDrop of %v for %d is %d, not in %d to %d", g, k, drop, least, most)
		}
	})
}

func TestPromise52AnonOk(t *testing.T) {
	eachNeed(func(g grouping, k int) {
		if !g.anonymous(k) {
			return
		}
		if least := g.least(); least < k && len(g.list) > 0 {
			t.Errorf("AnonOk of %v for %d holds with GroupLeast %d", g, k, least)
		}
		for less := 1; less < k; less++ {
			if !g.anonymous(less) {
				t.Errorf("AnonOk of %v holds for %d, but not for %d", g, k, less)
			}
		}
	})
}

func TestPromise53OkWithCoarser(t *testing.T) {
	eachNeed(func(g grouping, k int) {
		if !g.anonymous(k) {
			return
		}
		area, job, sex := g.r, g.r, g.r
		area.Area++
		job.Job++
		sex.Sex++
		for _, r := range []impl.Recode{coarsest(g.ladder), area, job, sex} {
			if valid := impl.RecodeValid(g.ladder, r); g.by(r).anonymous(k) != valid {
				t.Errorf("AnonOk of %v for %d holds; with %v it is %v", g, k, r, !valid)
			}
		}
	})
}

func TestPromise54AnonKeep(t *testing.T) {
	eachNeed(func(g grouping, k int) {
		list := g.kept(t, k)
		if len(list) != len(g.list)-g.drop(k) {
			t.Errorf("AnonKeep of %v for %d has %d people and drops %d", g, k, len(list), g.drop(k))
		}
		if !alike(list).anonymous(k) || !g.of(list).by(finest).anonymous(k) {
			t.Errorf("AnonKeep of %v for %d is %v, and not anonymous", g, k, list)
		}
		if !slices.Equal(g.of(list).kept(t, k), list) || !slices.Equal(alike(list).kept(t, k), list) {
			t.Errorf("AnonKeep of %v for %d is %v, and once more it is not", g, k, list)
		}
	})
}

func TestPromise55KeptInOrder(t *testing.T) {
	eachNeed(func(g grouping, k int) {
		list, rest := g.kept(t, k), g.recoded(t)
		if k == 1 && !slices.Equal(list, rest) {
			t.Errorf("AnonKeep of %v for 1 is %v, not %v", g, list, rest)
		}
		for _, p := range list {
			at := slices.Index(rest, p)
			if at < 0 {
				t.Fatalf("AnonKeep of %v for %d is %v: %v is not among the next persons", g, k, list, p)
			}
			rest = rest[at+1:]
		}
	})
}

func TestPromise56AnonCost(t *testing.T) {
	eachRecoding(func(ladder [][]int, r impl.Recode) {
		cost := impl.AnonCost(ladder, r)
		if cost < 0 || cost > len(ladder)+2 || (cost == 0) != (r == finest) {
			t.Errorf("AnonCost of %v for %v is %d", r, ladder, cost)
		}
		for _, coarser := range everyRecoding(ladder) {
			if more := impl.AnonCost(ladder, coarser); impl.RecodeFiner(ladder, r, coarser) && more < cost {
				t.Errorf("AnonCost of %v for %v is %d, and of %v %d", r, ladder, cost, coarser, more)
			}
		}
	})
}

func TestPromise57AnonBest(t *testing.T) {
	eachBest(func(g grouping, k int, drop int, best impl.Recode) {
		if got := g.by(best).drop(k); got < 0 || got > drop {
			t.Errorf("AnonBest of %v for %d and %d is %v, which drops %d", g, k, drop, best, got)
		}
		for _, r := range everyRecoding(g.ladder) {
			if g.by(r).cost() < g.by(best).cost() && g.by(r).drop(k) <= drop {
				t.Errorf("AnonBest of %v for %d and %d is %v, not %v", g, k, drop, best, r)
			}
		}
	})
}

func TestPromise58BestWithLess(t *testing.T) {
	eachBest(func(g grouping, k int, drop int, best impl.Recode) {
		cost := g.by(best).cost()
		if drop < math.MaxInt {
			if r, ok := g.best(k, drop+1); !ok || g.by(r).cost() > cost {
				t.Errorf("AnonBest of %v for %d and %d is %v, and with one more to be dropped %v, %v", g, k, drop, best, r, ok)
			}
		}
		if r, ok := g.best(k-1, drop); ok != (k > 1) || g.by(r).cost() > cost {
			t.Errorf("AnonBest of %v for %d and %d is %v, and for one less %v, %v", g, k, drop, best, r, ok)
		}
	})
}

func TestPromise59CoarsestAfterBest(t *testing.T) {
	eachBest(func(g grouping, k int, drop int, best impl.Recode) {
		if got := g.by(coarsest(g.ladder)).drop(k); got < 0 || got > drop {
			t.Errorf("AnonBest of %v for %d and %d is %v, and the coarsest recoding drops %d", g, k, drop, best, got)
		}
	})
}

func TestPromise60FirstPersonsMoved(t *testing.T) {
	eachNeed(func(g grouping, k int) {
		drop := g.drop(k)
		if drop < 0 || drop > len(g.list) {
			t.Errorf("AnonDrop of %v for %d is %d", g, k, drop)
		}
		for _, i := range cuts(g.list) {
			if moved := g.of(joined(g.list[i:], g.list[:i])).drop(k); moved != drop {
				t.Errorf("AnonDrop of %v for %d is %d, and with %d persons moved %d", g, k, drop, i, moved)
			}
		}
	})
}

func TestPromise61LessPeopleThanK(t *testing.T) {
	eachAnonymity(func(g grouping) {
		for k := len(g.list) + 1; k <= impl.PeopleMax; k++ {
			if drop := g.drop(k); drop != len(g.list) {
				t.Errorf("AnonDrop of %v for %d is %d", g, k, drop)
			}
		}
	})
}

func TestPromise62DropOfPeopleTwice(t *testing.T) {
	eachNeed(func(g grouping, k int) {
		twice, want := g.of(joined(g.list, g.list)), 2*g.drop(k)
		if len(twice.list) > impl.PeopleMax || 2*k > impl.PeopleMax {
			want = -1
		}
		if got := twice.drop(2 * k); got != want {
			t.Errorf("AnonDrop of twice the people of %v for twice %d is %d, not %d", g, k, got, want)
		}
	})
}

func TestPromise63GroupsOfKept(t *testing.T) {
	eachNeed(func(g grouping, k int) {
		kept := alike(g.kept(t, k))
		if kept.groups() < 0 || kept.groups() > g.groups() {
			t.Errorf("AnonKeep of %v for %d has %d groups of %d", g, k, kept.groups(), g.groups())
		}
		if k > 1 && kept.uniques() != 0 {
			t.Errorf("AnonKeep of %v for %d leaves %d alone", g, k, kept.uniques())
		}
	})
}

func TestPromise64BestIsFinest(t *testing.T) {
	eachChoice(func(g grouping, k int, drop int) {
		if k > 1 && drop < len(g.list) {
			return
		}
		if r, ok := g.best(k, drop); !ok || r != finest {
			t.Errorf("AnonBest of %v for %d and %d is %v, %v", g, k, drop, r, ok)
		}
	})
}

func TestPromise65BestOfRecoded(t *testing.T) {
	eachBest(func(g grouping, k int, drop int, best impl.Recode) {
		recoded := g.of(g.by(best).recoded(t))
		if r, ok := recoded.best(k, drop); !ok || r != finest {
			t.Errorf("AnonBest of %v for %d and %d is %v, and of the recoded people %v, %v", g, k, drop, best, r, ok)
		}
	})
}

func TestPromise66OkOfPeopleTwice(t *testing.T) {
	eachNeed(func(g grouping, k int) {
		if !g.anonymous(k) {
			return
		}
		twice := g.of(joined(g.list, g.list))
		fits := len(twice.list) <= impl.PeopleMax
		if twice.anonymous(k) != fits || twice.anonymous(2*k) != (fits && 2*k <= impl.PeopleMax) {
			t.Errorf("AnonOk of %v holds for %d, and of all twice it is %v, and for twice this %v", g, k, twice.anonymous(k), twice.anonymous(2*k))
		}
	})
}

func TestPromise67KeepWithOneMore(t *testing.T) {
	eachNeed(func(g grouping, k int) {
		if k == impl.PeopleMax {
			return
		}
		list, fewer := g.kept(t, k), g.kept(t, k+1)
		if len(fewer) > len(list) {
			t.Errorf("AnonKeep of %v has %d people for %d, and %d for one more", g, len(list), k, len(fewer))
		}
		if !slices.Equal(alike(list).kept(t, k+1), fewer) || !slices.Equal(g.of(list).kept(t, k+1), fewer) {
			t.Errorf("AnonKeep of %v for one more than %d is %v, and of the kept people it is not", g, k, fewer)
		}
	})
}

func TestPromise68BestWithoutDrop(t *testing.T) {
	met := 0
	eachBest(func(g grouping, k int, drop int, best impl.Recode) {
		if drop > 0 {
			return
		}
		met++
		if !g.by(best).anonymous(k) {
			t.Errorf("AnonBest of %v for %d and 0 is %v, which is not anonymous", g, k, best)
		}
	})
	if met < 500 {
		t.Errorf("AnonBest succeeds only %d times without people to be dropped", met)
	}
}

// TestAnonymityCounted counts anew: the promises alone would also hold for other people that are dropped.
func TestAnonymityCounted(t *testing.T) {
	eachNeed(func(g grouping, k int) {
		want := g.ownKept(k)
		if got := g.kept(t, k); !slices.Equal(got, want) {
			t.Errorf("AnonKeep of %v for %d is %v, not %v", g, k, got, want)
		}
		drop := len(g.list) - len(want)
		if g.drop(k) != drop || g.anonymous(k) != (drop == 0) {
			t.Errorf("AnonDrop of %v for %d is %d, not %d; AnonOk is %v", g, k, g.drop(k), drop, g.anonymous(k))
		}
		if got := g.cost(); got != ownCost(g.r) {
			t.Errorf("AnonCost of %v is %d", g, got)
		}
	})
}

// TestAnonBestChosen chooses anew among all recodings, and so also tells those of the same cost apart.
func TestAnonBestChosen(t *testing.T) {
	eachChoice(func(g grouping, k int, drop int) {
		fitting := append(g.ownFitting(k, drop), finest)
		if r, ok := g.best(k, drop); r != fitting[0] || ok != (len(fitting) > 1) {
			t.Errorf("AnonBest of %v for %d and %d is %v, %v of %v", g, k, drop, r, ok, fitting)
		}
	})
}

func TestAnonymityByHand(t *testing.T) {
	hand := byHand()
	for _, c := range []struct {
		r                                  impl.Recode
		cost, two, three, four, five, most int
	}{
		{impl.Recode{}, 0, 3, 5, 5, 5, 5},
		{impl.Recode{Job: 1, Sex: 1}, 2, 3, 5, 5, 5, 5},
		{impl.Recode{Area: 1}, 1, 2, 2, 5, 5, 5},
		{impl.Recode{Area: 2, Job: 1}, 3, 2, 2, 5, 5, 5},
		{impl.Recode{Area: 2, Sex: 1}, 3, 1, 1, 1, 5, 5},
		{impl.Recode{Area: 2, Job: 1, Sex: 1}, 4, 1, 1, 1, 5, 5},
	} {
		g := hand.by(c.r)
		if g.cost() != c.cost || g.drop(1) != 0 || g.drop(2) != c.two || g.drop(3) != c.three || g.drop(4) != c.four || g.drop(5) != c.five || g.drop(impl.PeopleMax) != c.most {
			t.Errorf("%v costs %d and drops %d, %d, %d, %d, %d, %d", c.r, g.cost(), g.drop(1), g.drop(2), g.drop(3), g.drop(4), g.drop(5), g.drop(impl.PeopleMax))
		}
		if !g.anonymous(1) || g.anonymous(2) {
			t.Errorf("AnonOk of %v is %v for 1 and %v for 2", c.r, g.anonymous(1), g.anonymous(2))
		}
	}
	want := []impl.Person{{Area: 1, Job: 0, Sex: 1, Pay: 10}, {Area: 1, Job: 0, Sex: 1, Pay: 20}, {Area: 1, Job: 0, Sex: 1, Pay: 20}}
	if got := hand.by(impl.Recode{Area: 1, Job: 1}).kept(t, 3); !slices.Equal(got, want) {
		t.Errorf("AnonKeep is %v", got)
	}
}

func TestAnonBestByHand(t *testing.T) {
	hand := byHand()
	for _, c := range []struct {
		k, drop int
		r       impl.Recode
		ok      bool
	}{
		{1, 0, impl.Recode{}, true},
		{2, 0, impl.Recode{}, false},
		{2, 1, impl.Recode{Area: 2, Sex: 1}, true},
		{2, 2, impl.Recode{Area: 1}, true},
		{2, 3, impl.Recode{}, true},
		{3, 2, impl.Recode{Area: 1}, true},
		{3, 4, impl.Recode{Area: 1}, true},
		{3, 5, impl.Recode{}, true},
		{4, 0, impl.Recode{}, false},
		{4, 1, impl.Recode{Area: 2, Sex: 1}, true},
		{5, 4, impl.Recode{}, false},
		{5, 5, impl.Recode{}, true},
		{6, 4, impl.Recode{}, false},
		{6, 5, impl.Recode{}, true},
	} {
		if r, ok := hand.best(c.k, c.drop); r != c.r || ok != c.ok {
			t.Errorf("AnonBest for %d and %d is %v, %v", c.k, c.drop, r, ok)
		}
	}
}

// TestAnonBestOfSameCost has people who become alike by several recodings of the same cost, or by just one of them.
func TestAnonBestOfSameCost(t *testing.T) {
	ladder := [][]int{{0, 0, 2, 3}, {0, 0, 0, 3}, {0, 0, 0, 0}}
	zero := impl.Person{}
	for _, c := range []struct {
		list []impl.Person
		drop int
		r    impl.Recode
	}{
		{[]impl.Person{zero, {Sex: 1}, zero, {Job: 1}, zero, {Area: 1}}, 2, impl.Recode{Sex: 1}},
		{[]impl.Person{zero, {Job: 1}, zero, {Area: 1}}, 1, impl.Recode{Job: 1}},
		{[]impl.Person{zero, {Area: 1}, zero, {Sex: 1}}, 1, impl.Recode{Sex: 1}},
		{[]impl.Person{zero, {Area: 1}, zero}, 0, impl.Recode{Area: 1}},
		{[]impl.Person{zero, {Sex: 1}, zero, {Job: 1}, zero, {Area: 1}}, 1, impl.Recode{Job: 1, Sex: 1}},
		{[]impl.Person{zero, {Sex: 1}, zero, {Area: 1}, zero, {Area: 2}}, 1, impl.Recode{Area: 1, Sex: 1}},
		{[]impl.Person{zero, {Area: 1, Job: 1}, zero, {Area: 2}}, 1, impl.Recode{Area: 1, Job: 1}},
		{[]impl.Person{zero, {Area: 1, Job: 1}, zero, {Area: 2}}, 0, impl.Recode{Area: 2, Job: 1}},
		{[]impl.Person{zero, {Area: 3}, zero, {Area: 2, Job: 1, Sex: 1}}, 1, impl.Recode{Area: 3}},
		{[]impl.Person{zero, {Area: 3}, zero, {Area: 2, Job: 1, Sex: 1}}, 0, impl.Recode{Area: 3, Job: 1, Sex: 1}},
	} {
		if r, ok := impl.AnonBest(c.list, ladder, 2, c.drop); r != c.r || !ok {
			t.Errorf("AnonBest of %v for 2 and %d is %v, %v, not %v", c.list, c.drop, r, ok, c.r)
		}
	}
}

func TestAnonymityOfNobody(t *testing.T) {
	eachRecoding(func(ladder [][]int, r impl.Recode) {
		for _, nobody := range [][]impl.Person{nil, {}} {
			g := grouping{nobody, ladder, r}
			for _, k := range []int{1, 2, impl.PeopleMax} {
				best, ok := g.best(k, 0)
				if g.drop(k) != 0 || !g.anonymous(k) || len(g.kept(t, k)) != 0 || best != finest || !ok {
					t.Errorf("nobody with %v, %v and %d: %d, %v", ladder, r, k, g.drop(k), best)
				}
			}
		}
	})
}

func TestAnonymityOfOne(t *testing.T) {
	for _, p := range everybodyAlone() {
		eachRecoding(func(ladder [][]int, r impl.Recode) {
			g := grouping{[]impl.Person{p}, ladder, r}
			_, fine := g.best(2, 0)
			best, ok := g.best(2, 1)
			if g.drop(1) != 0 || g.drop(2) != 1 || len(g.kept(t, 1)) != 1 || len(g.kept(t, 2)) != 0 || fine || !ok || best != finest {
				t.Fatalf("%v: drops %d and %d, keeps %v and %v", g, g.drop(1), g.drop(2), g.kept(t, 1), g.kept(t, 2))
			}
		})
	}
}

// TestKGreaterThanAllPeople has groups that are all too small, whatever the recoding.
func TestKGreaterThanAllPeople(t *testing.T) {
	eachAnonymity(func(g grouping) {
		all := len(g.list)
		for _, k := range []int{all + 1, all + 2, impl.PeopleMax} {
			if k <= all || k > impl.PeopleMax || all == 0 {
				continue
			}
			if g.drop(k) != all || g.anonymous(k) || len(g.kept(t, k)) != 0 {
				t.Errorf("%v for %d drops %d and keeps %v", g, k, g.drop(k), g.kept(t, k))
			}
			_, fine := g.best(k, all-1)
			if best, ok := g.best(k, all); fine || !ok || best != finest {
				t.Errorf("AnonBest of %v for %d is %v, %v with all to be dropped, and %v with one less", g, k, best, ok, fine)
			}
		}
	})
}

func TestAnonymityOfAllAloneAndOneGroup(t *testing.T) {
	alone := alike(everybodyAlone())
	if all := len(alone.list); alone.drop(1) != 0 || alone.drop(2) != all || len(alone.kept(t, 2)) != 0 {
		t.Errorf("all alone: %d, %d", alone.drop(1), alone.drop(2))
	}
	eachRecoding(func(ladder [][]int, r impl.Recode) {
		g := grouping{oneGroup(), ladder, r}
		best, ok := g.best(impl.PeopleMax, 0)
		if !g.anonymous(impl.PeopleMax) || !slices.Equal(g.kept(t, impl.PeopleMax), g.recoded(t)) || !ok || best != finest {
			t.Fatalf("one group of %v drops %d; best is %v", g, g.drop(impl.PeopleMax), best)
		}
	})
}

// expectNoAnonymity expects that all functions of anonymity with a recoding tell that an argument is invalid.
func expectNoAnonymity(t *testing.T, g grouping, k int) {
	t.Helper()
	if got := g.drop(k); got != -1 || g.anonymous(k) {
		t.Errorf("AnonDrop of %v for %d is %d, and AnonOk %v", g, k, got, g.anonymous(k))
	}
	if list, ok := impl.AnonKeep(g.list, g.ladder, g.r, k); ok || len(list) != 0 {
		t.Errorf("AnonKeep of %v for %d is %v, %v", g, k, list, ok)
	}
}

// expectNoBest expects that AnonBest fails.
func expectNoBest(t *testing.T, g grouping, k int, drop int) {
	t.Helper()
	if r, ok := g.best(k, drop); ok || r != finest {
		t.Errorf("AnonBest of %v for %d and %d is %v, %v", g, k, drop, r, ok)
	}
}

func TestAnonymityOfInvalidPeople(t *testing.T) {
	for _, list := range invalidPeople() {
		for _, ladder := range [][][]int{{}, slices.Repeat([][]int{{0, 0, 0, 0}}, impl.StepsMax)} {
			for _, r := range everyRecoding(ladder) {
				for _, k := range []int{0, 1, 2, impl.PeopleMax} {
					expectNoAnonymity(t, grouping{list, ladder, r}, k)
				}
			}
			for _, drop := range []int{0, 1, len(list), math.MaxInt} {
				expectNoBest(t, grouping{list, ladder, finest}, 1, drop)
				expectNoBest(t, grouping{list, ladder, finest}, 2, drop)
			}
		}
	}
}

func TestAnonymityOfInvalidLadders(t *testing.T) {
	for _, ladder := range invalidLadders() {
		for _, list := range [][]impl.Person{nil, {{Area: 1, Job: 2}}, oneGroup()} {
			for _, r := range []impl.Recode{finest, {Area: 1}, {Area: impl.StepsMax}, {Job: 1, Sex: 1}, coarsest(ladder)} {
				g := grouping{list, ladder, r}
				expectNoAnonymity(t, g, 1)
				expectNoAnonymity(t, g, impl.PeopleMax)
				if got := g.cost(); got != -1 {
					t.Errorf("AnonCost of %v for %v is %d", r, ladder, got)
				}
			}
			for _, drop := range []int{0, impl.PeopleMax, math.MaxInt} {
				expectNoBest(t, grouping{list, ladder, finest}, 1, drop)
				expectNoBest(t, grouping{list, ladder, finest}, impl.PeopleMax, drop)
			}
		}
	}
}

func TestAnonymityOfInvalidRecodings(t *testing.T) {
	lists := [][]impl.Person{nil, {{Area: 1, Job: 2, Sex: 1}}, everybodyAlone(), oneGroup()}
	for i, ladder := range everyLadder() {
		for _, bad := range badRecodings(ladder) {
			g := grouping{lists[i%len(lists)], ladder, bad}
			expectNoAnonymity(t, g, 1)
			expectNoAnonymity(t, g, 2)
			expectNoAnonymity(t, g, impl.PeopleMax)
			if got := g.cost(); got != -1 {
				t.Errorf("AnonCost of %v for %v is %d", bad, ladder, got)
			}
		}
	}
}

// TestAnonCostOfEveryNumber tells the costs of all valid recodings from other small numbers.
func TestAnonCostOfEveryNumber(t *testing.T) {
	eachSmallRecoding(func(ladder [][]int, r impl.Recode, valid bool) {
		want := -1
		if valid {
			want = r.Area + r.Job + r.Sex
		}
		if got := impl.AnonCost(ladder, r); got != want {
			t.Errorf("AnonCost of %v and %v is %d, not %d", ladder, r, got, want)
		}
	})
}

func TestAnonymityOfInvalidNeeds(t *testing.T) {
	eachGrouping(func(g grouping) {
		for _, k := range badNeeds() {
			expectNoAnonymity(t, g, k)
			expectNoBest(t, g, k, 0)
			expectNoBest(t, g, k, len(g.list))
			expectNoBest(t, g, k, math.MaxInt)
		}
	})
}

func TestAnonBestOfNegativeDrop(t *testing.T) {
	eachGrouping(func(g grouping) {
		for _, drop := range badDrops() {
			expectNoBest(t, g, 1, drop)
			expectNoBest(t, g, 2, drop)
			expectNoBest(t, g, impl.PeopleMax, drop)
		}
	})
}

// callAnonymity calls all functions of anonymity with valid and invalid needs and drops.
func (g grouping) callAnonymity() {
	g.cost()
	for _, k := range []int{-1, 0, 1, 2, impl.PeopleMax, impl.PeopleMax + 1} {
		g.drop(k)
		g.anonymous(k)
		impl.AnonKeep(g.list, g.ladder, g.r, k)
		for _, drop := range []int{-1, 0, len(g.list)} {
			g.best(k, drop)
		}
	}
}

func TestAnonymityArgumentsStay(t *testing.T) {
	eachAnonymity(func(g grouping) {
		expectStays(t, g, grouping.callAnonymity)
	})
	eachInvalidGrouping(func(g grouping) {
		expectStays(t, g, grouping.callAnonymity)
	})
}

func TestAnonKeepIsNewMemory(t *testing.T) {
	eachNeed(func(g grouping, k int) {
		expectNewMemory(t, g, func(g grouping) []impl.Person { return g.kept(t, k) })
	})
}
