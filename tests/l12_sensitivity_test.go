package tests

import (
	"math"
	"slices"
	"testing"

	"loop.example/disclosurecontrol/impl"
)

func TestPartConstants(t *testing.T) {
	if impl.PartsMax != 20 || impl.PartMax != 100000 {
		t.Errorf("PartsMax %d, PartMax %d", impl.PartsMax, impl.PartMax)
	}
}

// TestPartHelpers keeps the tests below from passing because they never meet what they are about.
func TestPartHelpers(t *testing.T) {
	met := map[string]int{}
	count := func(name string, is bool) {
		if is {
			met[name]++
		}
	}
	for _, list := range sampleParts() {
		order := descending(list)
		count("none", len(list) == 0)
		count("one", len(list) == 1)
		count("two", len(list) == 2)
		count("PartsMax", len(list) == impl.PartsMax)
		if len(list) < 3 {
			continue
		}
		count("zeros", order[0] == 0)
		count("all PartMax", order[len(order)-1] == impl.PartMax)
		count("0 and PartMax", order[len(order)-1] == 0 && order[0] == impl.PartMax)
		count("equal", order[0] == order[len(order)-1] && order[0] > 0)
		count("descending", order[0] > order[len(order)-1] && slices.Equal(list, order))
		count("ascending", order[0] > order[len(order)-1] && slices.IsSorted(list))
		count("mixed", len(list) > 10 && !slices.IsSorted(list) && !slices.Equal(list, order))
	}
	if len(met) != 11 || len(sampleParts()) < 600 || len(invalidParts()) < 500 || len(evenLeads()) < 500 || len(evenGuesses()) < 500 {
		t.Errorf("only met %v, %d invalid lists, and %d and %d even ones", met, len(invalidParts()), len(evenLeads()), len(evenGuesses()))
	}
}

func TestPromise98PartsValid(t *testing.T) {
	for _, list := range sampleParts() {
		for n := range len(list) + 1 {
			if !impl.PartsValid(list[:n]) || !impl.PartsValid(list[n:]) {
				t.Fatalf("the first %d of %v or the others are not valid", n, list)
			}
		}
		if impl.PartsValid(withParts(list, impl.PartMax+1)) {
			t.Errorf("%v with PartMax+1 behind is valid", list)
		}
	}
}

func TestPromise99PartsTopGrows(t *testing.T) {
	for _, list := range sampleParts() {
		if top := impl.PartsTop(list, 0); top != 0 {
			t.Errorf("PartsTop of %v for 0 is %d", list, top)
		}
		before := math.MaxInt
		for n := range impl.PartsMax + 2 {
			grown := topOf(t, list, n+1) - topOf(t, list, n)
			if grown < 0 || grown > before {
				t.Errorf("PartsTop of %v grows by %d behind %d, and by %d before", list, grown, n, before)
			}
			before = grown
		}
		if top := impl.PartsTop(list, impl.PartsMax); top != total(list) {
			t.Errorf("PartsTop of %v for PartsMax is %d", list, top)
		}
	}
}

func TestPromise100PartsTopMoved(t *testing.T) {
	for _, list := range sampleParts() {
		for _, n := range topNumbers(list) {
			top := topOf(t, list, n)
			for k := range len(list) + 1 {
				if got := impl.PartsTop(moved(list, k), n); got != top {
					t.Errorf("PartsTop of %v for %d is %d, and with %d moved %d", list, n, top, k, got)
				}
				if k+min(n, len(list)) <= len(list) && top < total(list[k:k+min(n, len(list))]) {
					t.Errorf("PartsTop of %v for %d is %d, less than those from %d on", list, n, top, k)
				}
			}
		}
	}
}

func TestPromise101PartsFew(t *testing.T) {
	met := 0
	for _, list := range sampleParts() {
		for _, n := range anyNumbers(list) {
			if !impl.PartsFew(list, n) {
				continue
			}
			met++
			if n == 1 || impl.PartsFew(list, 1) {
				t.Errorf("PartsFew of %v for 1 holds", list)
			}
			for _, greater := range anyNumbers(list) {
				if greater > n && !impl.PartsFew(list, greater) {
					t.Errorf("PartsFew of %v holds for %d, but not for %d", list, n, greater)
				}
			}
			if hasRoom(list, 1) && !impl.PartsFew(withParts(list, 0), n) {
				t.Errorf("PartsFew of %v for %d holds, but not with a 0", list, n)
			}
		}
	}
	if met < 1000 {
		t.Errorf("PartsFew only holds %d times", met)
	}
}

func TestPromise102PartsLeadForMore(t *testing.T) {
	eachLead(t, func(list []int, n int, percent int) {
		for greater := n; greater <= impl.PartsMax; greater++ {
			if !impl.PartsLead(list, greater, percent) {
				t.Errorf("PartsLead of %v for %d holds with %d, but not with %d", list, percent, n, greater)
			}
		}
		for lesser := range percent {
			if !impl.PartsLead(list, n, lesser) {
				t.Errorf("PartsLead of %v with %d holds for %d, but not for %d", list, n, percent, lesser)
			}
		}
	})
}

func TestPromise103PartsLeadIsMore(t *testing.T) {
	eachLead(t, func(list []int, n int, percent int) {
		if sum := total(list); sum == 0 || 100*topOf(t, list, n) <= percent*sum {
			t.Errorf("PartsLead of %v holds for %d and %d", list, n, percent)
		}
	})
}

func TestPromise104PartsGuessForMore(t *testing.T) {
	eachGuess(t, func(list []int, percent int) {
		for greater := percent; greater <= 100; greater++ {
			if !impl.PartsGuess(list, greater) {
				t.Errorf("PartsGuess of %v holds for %d, but not for %d", list, percent, greater)
			}
		}
		greatest := ranked(list, 0)
		if hasRoom(list, 2) && impl.PartsGuess(withParts(list, greatest, greatest), percent) {
			t.Errorf("PartsGuess of %v for %d holds with the greatest one twice more", list, percent)
		}
	})
}

func TestPromise105PartsGuessWithHalves(t *testing.T) {
	met := 0
	eachGuess(t, func(list []int, percent int) {
		half := ranked(list, 0) / 2
		more := withParts(list, half, half, half)
		if !hasRoom(more, 1) || impl.PartsGuess(more, percent) {
			return
		}
		met++
		for _, further := range []int{half, half / 2} {
			if impl.PartsGuess(withParts(more, further), percent) {
				t.Errorf("PartsGuess of %v does not hold for %d, but with %d behind", more, percent, further)
			}
		}
	})
	if met < 1000 {
		t.Errorf("PartsGuess only holds no more %d times", met)
	}
}

func TestPromise106PartsSpareIsEnough(t *testing.T) {
	met := 0
	eachSpare(t, func(list []int, percent int, spare int) {
		if (spare == 0) == impl.PartsGuess(list, percent) {
			t.Errorf("PartsSpare of %v for %d is %d, and PartsGuess %v", list, percent, spare, spare == 0)
		}
		if !hasRoom(list, 1) || spare > ranked(list, 1) {
			return
		}
		if spare > 0 {
			met++
		}
		for k := range len(list) + 1 {
			if more := slices.Insert(slices.Clone(list), k, spare); impl.PartsGuess(more, percent) {
				t.Errorf("PartsSpare of %v for %d is %d, and PartsGuess holds for %v", list, percent, spare, more)
			}
		}
	})
	if met < 500 {
		t.Errorf("PartsSpare is only a further contribution %d times", met)
	}
}

func TestPromise107PartsSpareIsLeast(t *testing.T) {
	met := 0
	eachSpare(t, func(list []int, percent int, spare int) {
		if spare == 0 || spare > ranked(list, 1) || !hasRoom(list, 1) {
			return
		}
		met++
		if more := withParts(list, spare-1); !impl.PartsGuess(more, percent) {
			t.Errorf("PartsSpare of %v for %d is %d, and PartsGuess does not hold for %v", list, percent, spare, more)
		}
	})
	if met < 500 {
		t.Errorf("PartsSpare less 1 is only a further contribution %d times", met)
	}
}

func TestPromise108PartsFewMoved(t *testing.T) {
	for _, list := range sampleParts() {
		for _, n := range anyNumbers(list) {
			if !impl.PartsFew(list, n) {
				continue
			}
			for k := range len(list) + 1 {
				if !impl.PartsFew(moved(list, k), n) {
					t.Errorf("PartsFew of %v for %d holds, but not with %d moved", list, n, k)
				}
			}
			if twice := doubled(list); impl.PartsFew(twice, n) != (ranked(twice, 0) <= impl.PartMax) {
				t.Errorf("PartsFew of %v for %d is %v", twice, n, impl.PartsFew(twice, n))
			}
		}
	}
}

func TestPromise109PartsLeadDoubled(t *testing.T) {
	eachLead(t, func(list []int, n int, percent int) {
		if twice := doubled(list); impl.PartsLead(twice, n, percent) != (ranked(twice, 0) <= impl.PartMax) {
			t.Errorf("PartsLead of %v for %d and %d is %v", twice, n, percent, impl.PartsLead(twice, n, percent))
		}
		if more := withParts(list, 0); impl.PartsLead(more, n, percent) != hasRoom(list, 1) {
			t.Errorf("PartsLead of %v for %d and %d is %v", more, n, percent, impl.PartsLead(more, n, percent))
		}
	})
}

func TestPromise110PartsGuessDoubled(t *testing.T) {
	eachGuess(t, func(list []int, percent int) {
		if twice := doubled(list); impl.PartsGuess(twice, percent) != (ranked(twice, 0) <= impl.PartMax) {
			t.Errorf("PartsGuess of %v for %d is %v", twice, percent, impl.PartsGuess(twice, percent))
		}
		for k := range len(list) + 1 {
			if !impl.PartsGuess(moved(list, k), percent) {
				t.Errorf("PartsGuess of %v for %d holds, but not with %d moved", list, percent, k)
			}
		}
	})
}

func TestPromise111OneOrTwoParts(t *testing.T) {
	edges := []int{0, 1, 2, 50, 99, 100, 101, 5000, impl.PartMax - 1, impl.PartMax}
	for _, a := range edges {
		for _, b := range edges {
			for _, list := range [][]int{{a}, {a, b}} {
				for percent := range 101 {
					some := total(list) > 0
					if impl.PartsGuess(list, percent) != (some && percent >= 1) {
						t.Errorf("PartsGuess of %v for %d is %v", list, percent, impl.PartsGuess(list, percent))
					}
					if impl.PartsLead(list, 2, percent) != (some && percent < 100) {
						t.Errorf("PartsLead of %v for 2 and %d is %v", list, percent, impl.PartsLead(list, 2, percent))
					}
				}
			}
		}
	}
}

func TestPromise112PartsSpareMoved(t *testing.T) {
	eachSpare(t, func(list []int, percent int, spare int) {
		for k := range len(list) + 1 {
			if got := impl.PartsSpare(moved(list, k), percent); got != spare {
				t.Errorf("PartsSpare of %v for %d is %d, and with %d moved %d", list, percent, spare, k, got)
			}
		}
		if hasRoom(list, 1) && impl.PartsSpare(withParts(list, 0), percent) != spare {
			t.Errorf("PartsSpare of %v for %d is not %d with a 0", list, percent, spare)
		}
		if percent < 100 && impl.PartsSpare(list, percent+1) < spare {
			t.Errorf("PartsSpare of %v is %d for %d, and less for one more", list, spare, percent)
		}
	})
}

func TestPromise113PartsSpareIsNotMore(t *testing.T) {
	eachSpare(t, func(list []int, percent int, spare int) {
		if 100*spare >= percent*ranked(list, 0)+100 {
			t.Errorf("PartsSpare of %v for %d is %d", list, percent, spare)
		}
	})
}

func TestPromise114FurtherPart(t *testing.T) {
	for _, list := range sampleParts() {
		if !hasRoom(list, 1) {
			continue
		}
		for _, n := range topNumbers(list) {
			top := topOf(t, list, n)
			for _, part := range []int{0, 1, 2, 60, ranked(list, 0), ranked(list, 1), impl.PartMax} {
				for _, more := range [][]int{withParts(list, part), withParts([]int{part}, list...)} {
					if got := impl.PartsTop(more, n); got < top || got > top+part {
						t.Errorf("PartsTop for %d is %d of %v, and %d of %v", n, top, list, got, more)
					}
				}
			}
		}
	}
}

func TestPromise115GreaterThanNext(t *testing.T) {
	for _, list := range sampleParts() {
		for _, n := range topNumbers(list) {
			if n == math.MaxInt {
				continue
			}
			top := topOf(t, list, n)
			next := topOf(t, list, n+1) - top
			greater := slices.DeleteFunc(slices.Clone(list), func(part int) bool { return part <= next })
			if len(greater) > n || total(greater) > top {
				t.Errorf("PartsTop of %v for %d is %d, and one more adds %d", list, n, top, next)
			}
		}
	}
}

func TestPromise116TopLeads(t *testing.T) {
	met := 0
	eachLead(t, func(list []int, n int, percent int) {
		top := topOf(t, list, n)
		if top == 0 {
			t.Fatalf("PartsLead of %v for %d and %d holds, and PartsTop is 0", list, n, percent)
		}
		if top > impl.PartMax {
			return
		}
		met++
		for _, other := range somePercents() {
			if impl.PartsLead([]int{top}, n, other) != (other < 100) || impl.PartsLead([]int{top}, 1, other) != (other < 100) {
				t.Errorf("PartsLead of %d alone for %d and %d or 1 and %d is %v", top, n, other, other, other == 100)
			}
		}
	})
	if met < 1000 {
		t.Errorf("PartsTop is only a contribution %d times", met)
	}
}

func TestPromise117Zeros(t *testing.T) {
	for _, list := range sampleParts() {
		zeros := make([]int, len(list))
		for _, n := range anyNumbers(list) {
			if impl.PartsFew(zeros, n) {
				t.Errorf("PartsFew of %d zeros holds for %d", len(zeros), n)
			}
			for _, percent := range somePercents() {
				if impl.PartsLead(zeros, n, percent) {
					t.Errorf("PartsLead of %d zeros holds for %d and %d", len(zeros), n, percent)
				}
			}
		}
		for percent := range 101 {
			if impl.PartsGuess(zeros, percent) || impl.PartsSpare(zeros, percent) != 0 {
				t.Errorf("PartsGuess of %d zeros for %d is %v, and PartsSpare %d", len(zeros), percent, impl.PartsGuess(zeros, percent), impl.PartsSpare(zeros, percent))
			}
		}
	}
}

// TestPartsCounted counts anew, without a heap: the promises alone would also hold for other numbers.
func TestPartsCounted(t *testing.T) {
	for _, list := range sampleParts() {
		for _, n := range topNumbers(list) {
			if got, want := impl.PartsTop(list, n), ownTop(list, n); got != want {
				t.Errorf("PartsTop of %v for %d is %d, not %d", list, n, got, want)
			}
		}
		for _, n := range anyNumbers(list) {
			if want := ownFew(list, n); impl.PartsFew(list, n) != want {
				t.Errorf("PartsFew of %v for %d is %v", list, n, !want)
			}
		}
		for _, percent := range somePercents() {
			for _, n := range leadNumbers() {
				if want := ownLead(list, n, percent); impl.PartsLead(list, n, percent) != want {
					t.Errorf("PartsLead of %v for %d and %d is %v", list, n, percent, !want)
				}
			}
			if want := ownGuess(list, percent, 0); impl.PartsGuess(list, percent) != want {
				t.Errorf("PartsGuess of %v for %d is %v", list, percent, !want)
			}
			if got, want := impl.PartsSpare(list, percent), ownSpare(list, percent); got != want {
				t.Errorf("PartsSpare of %v for %d is %d, not %d", list, percent, got, want)
			}
		}
	}
}

// TestPartsInAnyOrder has the same contributions in ascending, descending and mixed order.
func TestPartsInAnyOrder(t *testing.T) {
	for _, list := range sampleParts() {
		want := answersOf(list)
		for _, other := range mixes(list) {
			if got := answersOf(other); got != want {
				t.Errorf("%v tells %v, and %v tells %v", list, want, other, got)
			}
		}
	}
}

// TestPartsLeadJustNot has the greatest contributions be just the percentage of all, and one more or one less.
func TestPartsLeadJustNot(t *testing.T) {
	for _, e := range evenLeads() {
		last := len(e.list) - 1
		for _, list := range mixes(e.list) {
			if impl.PartsLead(list, e.n, e.percent) {
				t.Errorf("PartsLead of %v holds for %d and %d", list, e.n, e.percent)
			}
		}
		if more := withPart(e.list, 0, e.list[0]+1); impl.PartsLead(more, e.n, e.percent) != (e.percent < 100) {
			t.Errorf("PartsLead of %v for %d and %d is %v", more, e.n, e.percent, e.percent == 100)
		}
		if e.list[last] > 0 {
			if less := withPart(e.list, last, e.list[last]-1); !impl.PartsLead(less, e.n, e.percent) {
				t.Errorf("PartsLead of %v for %d and %d does not hold", less, e.n, e.percent)
			}
		}
		if e.percent > 0 && !impl.PartsLead(e.list, e.n, e.percent-1) {
			t.Errorf("PartsLead of %v for %d and %d does not hold", e.list, e.n, e.percent-1)
		}
	}
}

// TestPartsGuessJustNot has the sum of all but the two greatest contributions be just enough, and one more or one less.
func TestPartsGuessJustNot(t *testing.T) {
	for _, e := range evenGuesses() {
		last := len(e.list) - 1
		for _, list := range mixes(e.list) {
			if impl.PartsGuess(list, e.percent) || impl.PartsSpare(list, e.percent) != 0 {
				t.Errorf("PartsGuess of %v for %d is %v, and PartsSpare %d", list, e.percent, impl.PartsGuess(list, e.percent), impl.PartsSpare(list, e.percent))
			}
		}
		less := withPart(e.list, last, e.list[last]-1)
		if !impl.PartsGuess(less, e.percent) || impl.PartsSpare(less, e.percent) != 1 {
			t.Errorf("PartsGuess of %v for %d is %v, and PartsSpare %d", less, e.percent, impl.PartsGuess(less, e.percent), impl.PartsSpare(less, e.percent))
		}
		more := withPart(e.list, last, e.list[last]+1)
		if impl.PartsGuess(more, e.percent) || impl.PartsSpare(more, e.percent) != 0 {
			t.Errorf("PartsGuess of %v for %d is %v, and PartsSpare %d", more, e.percent, impl.PartsGuess(more, e.percent), impl.PartsSpare(more, e.percent))
		}
		if hundreds := e.list[0] / 100; e.percent < 100 && (!impl.PartsGuess(e.list, e.percent+1) || impl.PartsSpare(e.list, e.percent+1) != hundreds) {
			t.Errorf("PartsGuess of %v for %d is %v, and PartsSpare %d", e.list, e.percent+1, impl.PartsGuess(e.list, e.percent+1), impl.PartsSpare(e.list, e.percent+1))
		}
	}
}

func TestPartsTopByHand(t *testing.T) {
	list := []int{5, 0, 100000, 70, 5, 300, 0}
	for n, want := range map[int]int{0: 0, 1: 100000, 2: 100300, 3: 100370, 4: 100375, 5: 100380, 6: 100380, 7: 100380, 8: 100380, 20: 100380, 21: 100380, math.MaxInt: 100380, -1: -1, -7: -1, math.MinInt: -1} {
		if got := impl.PartsTop(list, n); got != want {
			t.Errorf("PartsTop for %d is %d, not %d", n, got, want)
		}
		none := min(want, 0)
		if got := impl.PartsTop(nil, n); got != none {
			t.Errorf("PartsTop of nothing for %d is %d, not %d", n, got, none)
		}
		if got := impl.PartsTop([]int{}, n); got != none {
			t.Errorf("PartsTop of an empty list for %d is %d, not %d", n, got, none)
		}
	}
	if got := impl.PartsTop(slices.Repeat([]int{impl.PartMax}, impl.PartsMax), impl.PartsMax); got != 2000000 {
		t.Errorf("PartsTop of all that can be is %d", got)
	}
}

func TestPartsFewByHand(t *testing.T) {
	for _, c := range []struct {
		list []int
		// from is the least number for which it holds, or 0 if there is none.
		from int
	}{
		{nil, 0},
		{[]int{}, 0},
		{[]int{0}, 0},
		{make([]int, 20), 0},
		{[]int{1}, 2},
		{[]int{100000}, 2},
		{[]int{0, 0, 3, 0}, 2},
		{[]int{0, 4, 2}, 3},
		{[]int{7, 7, 7}, 4},
		{slices.Repeat([]int{1}, 20), 21},
		{append(make([]int, 10), 1, 2, 3, 4, 5, 6, 7, 8, 9, 10), 11},
	} {
		for _, n := range []int{math.MinInt, -21, -1, 0, 1, 2, 3, 4, 5, 10, 11, 12, 19, 20, 21, 22, 1000, math.MaxInt} {
			if want := c.from > 0 && n >= c.from; impl.PartsFew(c.list, n) != want {
				t.Errorf("PartsFew of %v for %d is %v", c.list, n, !want)
			}
		}
	}
}

func TestPartsLeadByHand(t *testing.T) {
	for _, c := range []struct {
		list []int
		n    int
		// most is the greatest percentage for which it holds, or -1 if there is none.
		most int
	}{
		{nil, 1, -1},
		{[]int{0}, 1, -1},
		{[]int{0, 0, 0}, 20, -1},
		{[]int{1}, 1, 99},
		{[]int{100000}, 20, 99},
		{[]int{1, 1}, 1, 49},
		{[]int{1, 1}, 2, 99},
		{[]int{1, 1, 1}, 1, 33},
		{[]int{1, 1, 1}, 2, 66},
		{[]int{10, 70, 5, 15}, 1, 69},
		{[]int{10, 70, 5, 15}, 2, 84},
		{[]int{10, 70, 5, 15}, 3, 94},
		{[]int{10, 70, 5, 15}, 4, 99},
		{[]int{1000, 99000}, 1, 98},
		{[]int{1000, 99001}, 1, 99},
		{[]int{999, 99000}, 1, 99},
		{[]int{0, 100000, 1}, 1, 99},
		{slices.Repeat([]int{100000}, 20), 1, 4},
		{slices.Repeat([]int{100000}, 20), 19, 94},
		{slices.Repeat([]int{100000}, 20), 20, 99},
	} {
		for percent := range 101 {
			if want := percent <= c.most; impl.PartsLead(c.list, c.n, percent) != want {
				t.Errorf("PartsLead of %v for %d and %d is %v", c.list, c.n, percent, !want)
			}
		}
	}
}

func TestPartsGuessByHand(t *testing.T) {
	for _, c := range []struct {
		list []int
		// spare is PartsSpare for some percentages; it is 0 where PartsGuess does not hold.
		spare map[int]int
	}{
		{nil, map[int]int{0: 0, 1: 0, 100: 0}},
		{[]int{0}, map[int]int{0: 0, 1: 0, 100: 0}},
		{[]int{1}, map[int]int{0: 0, 1: 1, 50: 1, 99: 1, 100: 1}},
		{[]int{100}, map[int]int{0: 0, 1: 1, 2: 2, 99: 99, 100: 100}},
		{[]int{101}, map[int]int{0: 0, 1: 2, 50: 51, 99: 100, 100: 101}},
		{[]int{100000}, map[int]int{0: 0, 1: 1000, 33: 33000, 100: 100000}},
		{[]int{30, 30}, map[int]int{0: 0, 1: 1, 3: 1, 4: 2, 50: 15, 99: 30, 100: 30}},
		{[]int{0, 8}, map[int]int{0: 0, 1: 1, 50: 4, 51: 5, 100: 8}},
		{[]int{10, 70, 5, 15}, map[int]int{0: 0, 10: 0, 21: 0, 22: 1, 30: 6, 100: 55}},
		{[]int{50, 50, 50}, map[int]int{0: 0, 99: 0, 100: 0}},
		{[]int{49, 50, 50}, map[int]int{0: 0, 97: 0, 98: 0, 99: 1, 100: 1}},
		{[]int{1, 2, 100000}, map[int]int{0: 0, 1: 999, 100: 99999}},
		{[]int{100000, 100000, 1}, map[int]int{0: 0, 1: 999, 100: 99999}},
		{slices.Repeat([]int{100000}, 20), map[int]int{0: 0, 1: 0, 100: 0}},
		{append(make([]int, 19), 100000), map[int]int{0: 0, 1: 1000, 99: 99000, 100: 100000}},
		{append(slices.Repeat([]int{1}, 19), 1000), map[int]int{0: 0, 1: 0, 2: 2, 100: 982}},
	} {
		for percent, want := range c.spare {
			if got := impl.PartsSpare(c.list, percent); got != want {
				t.Errorf("PartsSpare of %v for %d is %d, not %d", c.list, percent, got, want)
			}
			if impl.PartsGuess(c.list, percent) != (want > 0) {
				t.Errorf("PartsGuess of %v for %d is %v", c.list, percent, want <= 0)
			}
		}
	}
}

// TestOnePart has the only contribution be the greatest one, with no second greatest one and nothing else.
func TestOnePart(t *testing.T) {
	for _, part := range []int{0, 1, 2, 3, 99, 100, 101, 200, 54321, impl.PartMax - 1, impl.PartMax} {
		list := []int{part}
		if !impl.PartsValid(list) {
			t.Fatalf("%v is not valid", list)
		}
		for _, n := range anyNumbers(list) {
			want := part
			if n < 0 {
				want = -1
			} else if n == 0 {
				want = 0
			}
			if got := impl.PartsTop(list, n); got != want {
				t.Errorf("PartsTop of %v for %d is %d", list, n, got)
			}
			if impl.PartsFew(list, n) != (part > 0 && n >= 2) {
				t.Errorf("PartsFew of %v for %d is %v", list, n, impl.PartsFew(list, n))
			}
		}
		for percent := range 101 {
			for n := 1; n <= impl.PartsMax; n++ {
				if impl.PartsLead(list, n, percent) != (part > 0 && percent < 100) {
					t.Errorf("PartsLead of %v for %d and %d is %v", list, n, percent, impl.PartsLead(list, n, percent))
				}
			}
			if impl.PartsGuess(list, percent) != (part > 0 && percent > 0) {
				t.Errorf("PartsGuess of %v for %d is %v", list, percent, impl.PartsGuess(list, percent))
			}
			if got, want := impl.PartsSpare(list, percent), int(math.Ceil(float64(part*percent)/100)); got != want {
				t.Errorf("PartsSpare of %v for %d is %d, not %d", list, percent, got, want)
			}
		}
	}
}

func TestInvalidParts(t *testing.T) {
	for _, list := range invalidParts() {
		if impl.PartsValid(list) {
			t.Errorf("%v is valid", list)
		}
		for _, n := range []int{math.MinInt, -1, 0, 1, 2, 5, impl.PartsMax, impl.PartsMax + 1, len(list), len(list) + 1, math.MaxInt} {
			if got := impl.PartsTop(list, n); got != -1 {
				t.Errorf("PartsTop of %v for %d is %d", list, n, got)
			}
			if impl.PartsFew(list, n) {
				t.Errorf("PartsFew of %v holds for %d", list, n)
			}
			for _, percent := range []int{math.MinInt, -1, 0, 1, 50, 100, 101, math.MaxInt} {
				if impl.PartsLead(list, n, percent) {
					t.Errorf("PartsLead of %v holds for %d and %d", list, n, percent)
				}
			}
		}
		for _, percent := range append(badPercents(), 0, 1, 50, 99, 100) {
			if impl.PartsGuess(list, percent) || impl.PartsSpare(list, percent) != -1 {
				t.Errorf("PartsGuess of %v for %d is %v, and PartsSpare %d", list, percent, impl.PartsGuess(list, percent), impl.PartsSpare(list, percent))
			}
		}
	}
}

func TestInvalidNumbersOfParts(t *testing.T) {
	for _, list := range sampleParts() {
		for _, n := range []int{-1, -2, -impl.PartsMax, math.MinInt, math.MinInt + 1} {
			if got := impl.PartsTop(list, n); got != -1 {
				t.Errorf("PartsTop of %v for %d is %d", list, n, got)
			}
			if impl.PartsFew(list, n) {
				t.Errorf("PartsFew of %v holds for %d", list, n)
			}
		}
		for _, n := range badLeads() {
			for _, percent := range append(badPercents(), 0, 1, 50, 100) {
				if impl.PartsLead(list, n, percent) {
					t.Errorf("PartsLead of %v holds for %d and %d", list, n, percent)
				}
			}
		}
	}
}

func TestInvalidPercents(t *testing.T) {
	for _, list := range sampleParts() {
		for _, percent := range badPercents() {
			for _, n := range leadNumbers() {
				if impl.PartsLead(list, n, percent) {
					t.Errorf("PartsLead of %v holds for %d and %d", list, n, percent)
				}
			}
			if impl.PartsGuess(list, percent) || impl.PartsSpare(list, percent) != -1 {
				t.Errorf("PartsGuess of %v for %d is %v, and PartsSpare %d", list, percent, impl.PartsGuess(list, percent), impl.PartsSpare(list, percent))
			}
		}
	}
}

// TestPartArgumentsStay looks at the room behind the contributions, too: a function must not write there either.
func TestPartArgumentsStay(t *testing.T) {
	for _, list := range slices.Concat(sampleParts(), invalidParts()) {
		for _, call := range partCalls() {
			whole := withParts(list, 6, 9, 3)
			want := slices.Clone(whole)
			if call(whole[:len(list)]); !slices.Equal(whole, want) {
				t.Fatalf("%v became %v", want, whole)
			}
		}
	}
}

// TestPartsKeepNothing overwrites the arguments of calls and expects that later calls with equal ones tell the same.
func TestPartsKeepNothing(t *testing.T) {
	for _, list := range slices.Concat(sampleParts(), invalidParts()[:50]) {
		used := slices.Clone(list)
		before := answersOf(used)
		clear(used)
		if got, want := answersOf(used), answersOf(make([]int, len(list))); got != want {
			t.Errorf("%v tells %v, and other zeros %v", used, got, want)
		}
		if after := answersOf(list); after != before {
			t.Errorf("%v told %v, and now %v", list, before, after)
		}
	}
}
