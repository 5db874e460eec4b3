package tests

import (
	"math"
	"slices"
	"sync"
	"testing"

	"loop.example/disclosurecontrol/impl"
)

func TestRoundConstants(t *testing.T) {
	if impl.BaseMax != 20 || impl.CountMax != 10000 {
		t.Errorf("BaseMax %d, CountMax %d", impl.BaseMax, impl.CountMax)
	}
}

// TestRoundHelpers keeps the tests below from passing because they never meet what they are about.
func TestRoundHelpers(t *testing.T) {
	met := map[string]int{}
	count := func(name string, is bool) {
		if is {
			met[name]++
		}
	}
	bases := everyBase()
	if len(bases) != 19 || bases[0] != 2 || bases[18] != 20 {
		t.Fatalf("the bases are %v", bases)
	}
	for _, base := range bases {
		own := ownRoundings(base)
		for _, x := range someCounts(base) {
			count("0", x == 0)
			count("1", x == 1)
			count("CountMax - 1", x == impl.CountMax-1)
			count("CountMax", x == impl.CountMax)
			count("a multiple", x%base == 0 && x > 0)
			count("just below a multiple", x%base == base-1)
			count("just above a multiple", x%base == 1)
			count("as near to one as to the other", 2*(x%base) == base)
			count("just not as near", 2*(x%base) == base-1)
			count("nearest to a multiple beyond CountMax", own.near(x) > impl.CountMax)
			for _, lot := range someLots(x, base) {
				count("the lot 0", lot == 0)
				count("the lot base - 1", lot == base-1)
				count("the lot that is the remainder", lot == x%base && lot > 0)
				count("the lot just below the remainder", lot == x%base-1)
				count("drawn beyond CountMax", own.draw(x, lot) > impl.CountMax)
			}
		}
		low, high := own.ends()
		for y := 0; y < counts; y += base {
			count("only greater numbers", low[y] == 0 && y == 0)
			count("cut off at CountMax", high[y] == impl.CountMax && high[y] < y+base-1)
			count("just not cut off", high[y] == impl.CountMax-1)
			count("both sides", high[y]-low[y] == 2*base-2)
		}
	}
	if len(met) != 19 {
		t.Errorf("only met %d: %v", len(met), met)
	}
	for name, n := range met {
		if n < 5 {
			t.Errorf("%q is only met %d times", name, n)
		}
	}
}

func TestPromise172DownIsMultiple(t *testing.T) {
	eachRounding(t, func(x int, base int, down int) {
		if down%base != 0 || down > x || down <= x-base {
			t.Fatalf("RoundDown of %d for %d is %d", x, base, down)
		}
	})
}

func TestPromise173DownGrows(t *testing.T) {
	eachRounding(t, func(x int, base int, down int) {
		if next := impl.RoundDown(x+1, base); x < impl.CountMax && next < down {
			t.Fatalf("RoundDown of %d for %d is %d, and of the next number %d", x, base, down, next)
		}
		if again := impl.RoundDown(down, base); again != down {
			t.Fatalf("RoundDown of %d for %d is %d, and of this %d", x, base, down, again)
		}
	})
}

func TestPromise174NearIsMultiple(t *testing.T) {
	eachNear(t, func(x int, base int, near int) {
		if near%base != 0 || 2*(near-x) > base || 2*(x-near) > base {
			t.Fatalf("RoundNear of %d for %d is %d", x, base, near)
		}
	})
}

func TestPromise175NearIsDownOrUp(t *testing.T) {
	eachNear(t, func(x int, base int, near int) {
		down := impl.RoundDown(x, base)
		if near != down && near != down+base || x%base == 0 && near != x {
			t.Fatalf("RoundNear of %d for %d is %d, and RoundDown %d", x, base, near, down)
		}
	})
}

func TestPromise176LotsAreFair(t *testing.T) {
	eachDraws(t, func(x int, base int, draws []int) {
		if total(draws) != x*base {
			t.Fatalf("RoundDraw of %d for %d is %v", x, base, draws)
		}
	})
}

func TestPromise177DrawIsMultiple(t *testing.T) {
	eachDraws(t, func(x int, base int, draws []int) {
		for lot, draw := range draws {
			switch {
			case draw%base != 0, draw <= x-base, draw >= x+base, lot > 0 && draw > draws[lot-1], x%base == 0 && draw != x:
				t.Fatalf("RoundDraw of %d for %d is %v", x, base, draws)
			}
		}
	})
}

func TestPromise178LowIsLeast(t *testing.T) {
	eachMultiple(t, func(y int, base int, low int, _ int) {
		if !drawn(low, base, y) || low > 0 && drawn(low-1, base, y) {
			t.Fatalf("RoundLow of %d for %d is %d", y, base, low)
		}
	})
}

func TestPromise179HighIsGreatest(t *testing.T) {
	eachMultiple(t, func(y int, base int, _ int, high int) {
		if !drawn(high, base, y) || high < impl.CountMax && drawn(high+1, base, y) {
			t.Fatalf("RoundHigh of %d for %d is %d", y, base, high)
		}
	})
}

func TestPromise180NumberBetweenEnds(t *testing.T) {
	beyond := 0
	eachDraws(t, func(x int, base int, draws []int) {
		for _, y := range draws {
			if y > impl.CountMax {
				beyond++
				continue
			}
			if low, high := impl.RoundLow(y, base), impl.RoundHigh(y, base); low < 0 || x < low || x > high {
				t.Fatalf("RoundDraw of %d for %d is %d, of which RoundLow is %d and RoundHigh %d", x, base, y, low, high)
			}
		}
	})
	if beyond < 100 {
		t.Errorf("only %d results are greater than CountMax", beyond)
	}
}

func TestPromise181EndsAreNear(t *testing.T) {
	just := 0
	eachMultiple(t, func(y int, base int, low int, high int) {
		most := 2*base - 2
		if high > low+most {
			t.Fatalf("RoundLow of %d for %d is %d, and RoundHigh %d", y, base, low, high)
		}
		if y >= base && y <= impl.CountMax-base {
			just++
			if high != low+most {
				t.Fatalf("RoundLow of %d for %d is %d, and RoundHigh just %d", y, base, low, high)
			}
		}
	})
	if just < 20000 {
		t.Errorf("only %d multiples are far from the ends", just)
	}
}

func TestPromise182NearGrows(t *testing.T) {
	halves := 0
	eachNear(t, func(x int, base int, near int) {
		if next := impl.RoundNear(x+1, base); x < impl.CountMax && next < near {
			t.Fatalf("RoundNear of %d for %d is %d, and of the next number %d", x, base, near, next)
		}
		if base%2 != 0 || x+base/2 > impl.CountMax {
			return
		}
		halves++
		if down := impl.RoundDown(x+base/2, base); down != near {
			t.Fatalf("RoundNear of %d for %d is %d, and RoundDown of half the base more %d", x, base, near, down)
		}
	})
	if halves < 90000 {
		t.Errorf("only %d numbers have half of an even base added", halves)
	}
}

func TestPromise183BaseMore(t *testing.T) {
	met := 0
	eachRounding(t, func(x int, base int, down int) {
		if x+base > impl.CountMax {
			return
		}
		met++
		if got := impl.RoundDown(x+base, base); got != down+base {
			t.Fatalf("RoundDown of %d for %d is %d, and of the base more %d", x, base, down, got)
		}
		if near, got := impl.RoundNear(x, base), impl.RoundNear(x+base, base); got != near+base {
			t.Fatalf("RoundNear of %d for %d is %d, and of the base more %d", x, base, near, got)
		}
		for lot := range base {
			if draw, got := impl.RoundDraw(x, base, lot), impl.RoundDraw(x+base, base, lot); got != draw+base {
				t.Fatalf("RoundDraw of %d for %d and the lot %d is %d, and of the base more %d", x, base, lot, draw, got)
			}
		}
	})
	if met < 180000 {
		t.Errorf("only %d numbers have the base added", met)
	}
}

func TestPromise184LotsThatRoundUp(t *testing.T) {
	eachDraws(t, func(x int, base int, draws []int) {
		ups := 0
		for _, draw := range draws {
			if draw > x {
				ups++
			}
		}
		if ups != x%base {
			t.Fatalf("%d lots round %d up for %d: %v", ups, x, base, draws)
		}
	})
}

func TestPromise185NumbersBetweenEnds(t *testing.T) {
	eachMultiple(t, func(y int, base int, low int, high int) {
		if low > y || high < y {
			t.Fatalf("RoundLow of %d for %d is %d, and RoundHigh %d", y, base, low, high)
		}
		for x := low; x <= high; x++ {
			if !drawn(x, base, y) {
				t.Fatalf("no lot rounds %d for %d to %d, of which RoundLow is %d and RoundHigh %d", x, base, y, low, high)
			}
		}
	})
}

// TestPromise186TwiceTheBase rounds down for one base what was rounded down for the other one, both ways.
func TestPromise186TwiceTheBase(t *testing.T) {
	met := 0
	eachRounding(t, func(x int, base int, down int) {
		if 2*base > impl.BaseMax {
			return
		}
		met++
		twice := impl.RoundDown(x, 2*base)
		if twice < 0 || twice > down || impl.RoundDown(down, 2*base) != twice || impl.RoundDown(twice, base) != twice {
			t.Fatalf("RoundDown of %d for %d is %d, and for twice this %d; of the first one for twice it is %d, and of the second one for it %d",
				x, base, down, twice, impl.RoundDown(down, 2*base), impl.RoundDown(twice, base))
		}
	})
	if met != 9*counts {
		t.Errorf("only %d numbers are rounded for twice the base", met)
	}
}

func TestPromise187SomeLotDrawsNear(t *testing.T) {
	eachNear(t, func(x int, base int, near int) {
		if !drawn(x, base, near) {
			t.Fatalf("no lot draws %d, RoundNear of %d for %d", near, x, base)
		}
	})
}

// TestRoundingsCounted goes through all numbers, bases and lots, and some beside their ranges: the promises alone would also hold for other numbers.
func TestRoundingsCounted(t *testing.T) {
	for _, base := range everyBase() {
		own := ownRoundings(base)
		for x := range counts {
			if down, near := impl.RoundDown(x, base), impl.RoundNear(x, base); down != own.down[x] || near != own.near(x) {
				t.Fatalf("RoundDown of %d for %d is %d, not %d, and RoundNear %d, not %d", x, base, down, own.down[x], near, own.near(x))
			}
			for lot := range base {
				if draw := impl.RoundDraw(x, base, lot); draw != own.draw(x, lot) {
					t.Fatalf("RoundDraw of %d for %d and the lot %d is %d, not %d", x, base, lot, draw, own.draw(x, lot))
				}
			}
		}
	}
}

// TestRoundEndsCounted goes through all numbers and bases, most of which are no multiples.
func TestRoundEndsCounted(t *testing.T) {
	for _, base := range everyBase() {
		low, high := ownRoundings(base).ends()
		for y := range counts {
			if gotLow, gotHigh := impl.RoundLow(y, base), impl.RoundHigh(y, base); gotLow != low[y] || gotHigh != high[y] {
				t.Fatalf("RoundLow of %d for %d is %d, not %d, and RoundHigh %d, not %d", y, base, gotLow, low[y], gotHigh, high[y])
			}
		}
	}
}

func TestRoundingsByHand(t *testing.T) {
	for _, c := range []struct{ x, base, down, near, lots, up int }{
		// The lots less than this number draw the last one, the others RoundDown.
		{0, 2, 0, 0, 0, 0}, {1, 2, 0, 2, 1, 2}, {2, 2, 2, 2, 0, 2}, {3, 2, 2, 4, 1, 4},
		{0, 5, 0, 0, 0, 0}, {1, 5, 0, 0, 1, 5}, {2, 5, 0, 0, 2, 5}, {3, 5, 0, 5, 3, 5}, {4, 5, 0, 5, 4, 5}, {5, 5, 5, 5, 0, 5},
		{12, 5, 10, 10, 2, 15}, {13, 5, 10, 15, 3, 15},
		{1, 4, 0, 0, 1, 4}, {2, 4, 0, 4, 2, 4}, {3, 4, 0, 4, 3, 4}, {4, 4, 4, 4, 0, 4},
		{0, 20, 0, 0, 0, 0}, {9, 20, 0, 0, 9, 20}, {10, 20, 0, 20, 10, 20}, {19, 20, 0, 20, 19, 20}, {20, 20, 20, 20, 0, 20}, {21, 20, 20, 20, 1, 40},
		{9998, 2, 9998, 9998, 0, 9998}, {9999, 2, 9998, 10000, 1, 10000}, {10000, 2, 10000, 10000, 0, 10000},
		{9980, 20, 9980, 9980, 0, 9980}, {9989, 20, 9980, 9980, 9, 10000}, {9990, 20, 9980, 10000, 10, 10000}, {9999, 20, 9980, 10000, 19, 10000}, {10000, 20, 10000, 10000, 0, 10000},
		{9998, 3, 9996, 9999, 2, 9999}, {9999, 3, 9999, 9999, 0, 9999}, {10000, 3, 9999, 9999, 1, 10002},
		// Numbers in range become greater than CountMax.
		{9999, 6, 9996, 10002, 3, 10002}, {10000, 6, 9996, 10002, 4, 10002}, {9999, 7, 9996, 9996, 3, 10003}, {10000, 7, 9996, 10003, 4, 10003},
		{10000, 15, 9990, 10005, 10, 10005}, {10000, 17, 9996, 9996, 4, 10013}, {9998, 18, 9990, 9990, 8, 10008}, {9999, 18, 9990, 10008, 9, 10008}, {10000, 19, 9994, 9994, 6, 10013},
	} {
		if down, near := impl.RoundDown(c.x, c.base), impl.RoundNear(c.x, c.base); down != c.down || near != c.near {
			t.Errorf("RoundDown of %d for %d is %d, and RoundNear %d", c.x, c.base, down, near)
		}
		want := slices.Concat(slices.Repeat([]int{c.up}, c.lots), slices.Repeat([]int{c.down}, c.base-c.lots))
		if draws := drawsOf(c.x, c.base); !slices.Equal(draws, want) {
			t.Errorf("RoundDraw of %d for %d is %v", c.x, c.base, draws)
		}
	}
}

func TestRoundEndsByHand(t *testing.T) {
	for _, c := range []struct{ y, base, low, high int }{
		// No number is negative.
		{0, 2, 0, 1}, {0, 5, 0, 4}, {0, 20, 0, 19},
		{2, 2, 1, 3}, {5, 5, 1, 9}, {10, 5, 6, 14}, {20, 20, 1, 39}, {40, 20, 21, 59}, {9998, 2, 9997, 9999}, {9960, 20, 9941, 9979}, {9980, 20, 9961, 9999},
		// No number is greater than CountMax.
		{10000, 2, 9999, 10000}, {10000, 5, 9996, 10000}, {10000, 16, 9985, 10000}, {10000, 20, 9981, 10000},
		{9996, 3, 9994, 9998}, {9999, 3, 9997, 10000}, {9989, 7, 9983, 9995}, {9996, 7, 9990, 10000}, {9999, 9, 9991, 10000}, {9994, 19, 9976, 10000},
		// These are no multiples, or not in range.
		{1, 2, -1, -1}, {11, 5, -1, -1}, {9999, 2, -1, -1}, {9999, 20, -1, -1}, {10000, 3, -1, -1}, {10000, 19, -1, -1},
		{-2, 2, -1, -1}, {-20, 20, -1, -1}, {10002, 2, -1, -1}, {10002, 3, -1, -1}, {10020, 20, -1, -1}, {10013, 19, -1, -1},
	} {
		if low, high := impl.RoundLow(c.y, c.base), impl.RoundHigh(c.y, c.base); low != c.low || high != c.high {
			t.Errorf("RoundLow of %d for %d is %d, and RoundHigh %d", c.y, c.base, low, high)
		}
	}
}

func TestInvalidBases(t *testing.T) {
	for _, base := range badBases() {
		for x := range counts {
			// These are lots of the base, if it has any.
			for _, lot := range []int{0, 1, base - 1} {
				expectNoRounding(t, x, base, lot)
			}
		}
	}
}

func TestInvalidCounts(t *testing.T) {
	for _, x := range badCounts() {
		for _, base := range everyBase() {
			for lot := range base {
				expectNoRounding(t, x, base, lot)
			}
		}
	}
}

// TestRangesOfRounding goes through all numbers beside their ranges, close to them.
func TestRangesOfRounding(t *testing.T) {
	for base := -25; base <= impl.BaseMax+25; base++ {
		goodBase := base >= leastBase && base <= impl.BaseMax
		for far := 1; far <= 3*impl.BaseMax; far++ {
			for lot := range max(base, 1) {
				expectNoRounding(t, -far, base, lot)
				expectNoRounding(t, impl.CountMax+far, base, lot)
			}
		}
		for _, x := range []int{0, 1, 13, impl.CountMax - 1, impl.CountMax} {
			if !goodBase {
				expectNoRounding(t, x, base, 0)
				continue
			}
			for lot := -25; lot <= base+25; lot++ {
				if draw := impl.RoundDraw(x, base, lot); (draw == -1) != (lot < 0 || lot >= base) {
					t.Fatalf("RoundDraw of %d for %d and the lot %d is %d", x, base, lot, draw)
				}
			}
		}
	}
}

func TestInvalidLots(t *testing.T) {
	for _, base := range everyBase() {
		for x := range counts {
			for _, lot := range badLots(base) {
				if draw := impl.RoundDraw(x, base, lot); draw != -1 {
					t.Fatalf("RoundDraw of %d for %d and the lot %d is %d", x, base, lot, draw)
				}
			}
		}
	}
}

// TestInvalidRoundings has several invalid arguments at once, and the least and the greatest integers in all places.
func TestInvalidRoundings(t *testing.T) {
	extremes := []int{math.MinInt, math.MinInt + 1, -1, 0, 1, 2, impl.BaseMax, impl.CountMax, math.MaxInt - 1, math.MaxInt}
	for _, x := range slices.Concat(extremes, badCounts()) {
		for _, base := range slices.Concat(extremes, badBases()) {
			if x >= 0 && x <= impl.CountMax && base >= leastBase && base <= impl.BaseMax {
				continue
			}
			for _, lot := range slices.Concat(extremes, badLots(5)) {
				expectNoRounding(t, x, base, lot)
			}
		}
	}
}

// TestRoundingKeepsNothing makes each call behind each other one, those that are refused among them.
func TestRoundingKeepsNothing(t *testing.T) {
	calls := append(goodCalls([]int{2, 5, 12, impl.BaseMax}), refusedCalls()...)
	if len(calls) < 500 {
		t.Fatalf("only %d calls", len(calls))
	}
	for _, first := range calls {
		for _, second := range calls {
			first.expect(t)
			second.expect(t)
		}
	}
}

// TestRoundingInAnyOrder makes all calls from the last one to the first one, in an order drawn by lot, and again and again.
func TestRoundingInAnyOrder(t *testing.T) {
	calls := append(goodCalls(everyBase()), refusedCalls()...)
	l := &lots{state: 70}
	for _, k := range l.shuffled(len(calls)) {
		for range 100 {
			calls[k].expect(t)
		}
	}
	slices.Reverse(calls)
	for _, call := range calls {
		call.expect(t)
	}
}

// TestRoundingAtTheSameTime makes different calls at the same time, as something kept by one could be met by another one.
func TestRoundingAtTheSameTime(t *testing.T) {
	calls := append(goodCalls(everyBase()), refusedCalls()...)
	const workers = 8
	wrong := make([]int, workers)
	var group sync.WaitGroup
	for worker := range workers {
		group.Go(func() {
			l := &lots{state: uint64(worker)}
			for range 200000 {
				if call := calls[l.below(len(calls))]; call.ask() != call.want {
					wrong[worker]++
				}
			}
		})
	}
	group.Wait()
	if total(wrong) != 0 {
		t.Errorf("%v calls at the same time are wrong", wrong)
	}
}
