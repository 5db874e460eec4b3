package tests

import (
	"math"
	"slices"
	"testing"

	"loop.example/disclosurecontrol/impl"
)

// leastBase is the least base of rounding.
const leastBase = 2

// counts is how many numbers are rounded.
const counts = impl.CountMax + 1

// everyBase returns all bases, in ascending order.
func everyBase() []int {
	var out []int
	for base := leastBase; base <= impl.BaseMax; base++ {
		out = append(out, base)
	}
	return out
}

// roundsTo is what a base makes of each number from 0 to CountMax, found without dividing.
type roundsTo struct {
	base int
	down []int
}

// ownRoundings walks from one multiple to the next.
func ownRoundings(base int) roundsTo {
	down := make([]int, counts)
	for x := 1; x < counts; x++ {
		down[x] = down[x-1]
		if x == down[x]+base {
			down[x] = x
		}
	}
	return roundsTo{base, down}
}

// near returns what RoundNear must return: it holds the distances from both multiples against each other.
func (r roundsTo) near(x int) int {
	least := r.down[x]
	if greatest := least + r.base; greatest-x <= x-least {
		return greatest
	}
	return least
}

// draw returns what RoundDraw must return for a lot in its range.
func (r roundsTo) draw(x int, lot int) int {
	if lot < x-r.down[x] {
		return r.down[x] + r.base
	}
	return r.down[x]
}

// ends returns what RoundLow and RoundHigh must return for each number from 0 to CountMax: it rounds all numbers with all lots.
func (r roundsTo) ends() ([]int, []int) {
	low, high := slices.Repeat([]int{-1}, counts), slices.Repeat([]int{-1}, counts)
	for x := range counts {
		for lot := range r.base {
			y := r.draw(x, lot)
			if y > impl.CountMax {
				continue
			}
			if low[y] < 0 {
				low[y] = x
			}
			high[y] = x
		}
	}
	return low, high
}

// badBases returns numbers that are no bases of rounding; some overflow if something is added to them or taken from them, and some would be bases if only their last bits counted.
func badBases() []int {
	return []int{
		1, 0, -1, -2, -5, -impl.BaseMax, -impl.BaseMax - 1, impl.BaseMax + 1, impl.BaseMax + 2, 100, impl.CountMax, 1<<8 + 5, 1<<16 + 5, 1<<32 + 5,
		math.MinInt, math.MinInt + 1, math.MinInt + 5, math.MinInt32, math.MaxInt32, math.MaxInt - 1, math.MaxInt,
	}
}

// badCounts returns numbers that are not rounded; all but some are multiples of several bases.
func badCounts() []int {
	return []int{
		-1, -2, -5, -60, -impl.CountMax, -impl.CountMax - 1, impl.CountMax + 1, impl.CountMax + 2, impl.CountMax + 20, 2 * impl.CountMax, 1<<16 + 60, 1<<32 + 60,
		math.MinInt, math.MinInt + 1, math.MinInt + 60, math.MinInt32, math.MaxInt32, math.MaxInt - 60, math.MaxInt - 1, math.MaxInt,
	}
}

// badLots returns numbers that are no lots for a base.
func badLots(base int) []int {
	return []int{
		-1, -2, -base, base, base + 1, base + 2, 2 * base, impl.CountMax, 1<<8 + 1, 1<<16 + 1, 1 << 32, 1<<32 + 1,
		math.MinInt, math.MinInt + 1, math.MinInt32, math.MaxInt32, math.MaxInt - 1, math.MaxInt,
	}
}

// someCounts returns numbers to be rounded: the ends of their range, and multiples of a base and what is beside them, the least, the greatest and the middle ones.
func someCounts(base int) []int {
	last := impl.CountMax - impl.CountMax%base
	out := []int{0, 1, impl.CountMax - 1, impl.CountMax, base / 2, (base + 1) / 2}
	for _, y := range []int{base, 2 * base, 60 * base, last - base, last} {
		out = append(out, y-1, y, y+1, y-base/2, y-(base+1)/2)
	}
	slices.Sort(out)
	out = slices.Compact(out)
	return slices.DeleteFunc(out, func(x int) bool { return x > impl.CountMax })
}

// someLots returns lots for a number and a base: the ends of their range, and those beside the remainder of the number.
func someLots(x int, base int) []int {
	out := []int{0, base - 1, x%base - 1, x % base, x%base + 1}
	slices.Sort(out)
	return slices.DeleteFunc(slices.Compact(out), func(lot int) bool { return lot < 0 || lot >= base })
}

// eachRounding calls a function with all numbers and bases, and with RoundDown of them, which must not be -1.
func eachRounding(t *testing.T, do func(x int, base int, down int)) {
	t.Helper()
	for _, base := range everyBase() {
		for x := range counts {
			down := impl.RoundDown(x, base)
			if down < 0 {
				t.Fatalf("RoundDown of %d for %d is %d", x, base, down)
			}
			do(x, base, down)
		}
	}
}

// eachNear calls a function with all numbers and bases, and with RoundNear of them, which must not be -1.
func eachNear(t *testing.T, do func(x int, base int, near int)) {
	t.Helper()
	eachRounding(t, func(x int, base int, _ int) {
		near := impl.RoundNear(x, base)
		if near < 0 {
			t.Fatalf("RoundNear of %d for %d is %d", x, base, near)
		}
		do(x, base, near)
	})
}

// eachDraws calls a function with all numbers and bases, and with RoundDraw of them for each lot, which must not be -1.
func eachDraws(t *testing.T, do func(x int, base int, draws []int)) {
	t.Helper()
	eachRounding(t, func(x int, base int, _ int) {
		draws := drawsOf(x, base)
		if slices.Min(draws) < 0 {
			t.Fatalf("RoundDraw of %d for %d is %v", x, base, draws)
		}
		do(x, base, draws)
	})
}

// drawsOf returns RoundDraw of a number for each lot.
func drawsOf(x int, base int) []int {
	draws := make([]int, base)
	for lot := range base {
		draws[lot] = impl.RoundDraw(x, base, lot)
	}
	return draws
}

// drawn reports whether RoundDraw with some lot rounds a number to a multiple.
func drawn(x int, base int, y int) bool {
	return slices.Contains(drawsOf(x, base), y)
}

// eachMultiple calls a function with all bases and their multiples up to CountMax, and with RoundLow and RoundHigh of them, which must not be -1.
func eachMultiple(t *testing.T, do func(y int, base int, low int, high int)) {
	t.Helper()
	for _, base := range everyBase() {
		for y := 0; y <= impl.CountMax; y += base {
			low, high := impl.RoundLow(y, base), impl.RoundHigh(y, base)
			if low < 0 || high < 0 {
				t.Fatalf("RoundLow of %d for %d is %d, and RoundHigh %d", y, base, low, high)
			}
			do(y, base, low, high)
		}
	}
}

// expectNoRounding expects that all functions of chapter 21 refuse a number, a base and a lot.
func expectNoRounding(t *testing.T, x int, base int, lot int) {
	t.Helper()
	if down, near := impl.RoundDown(x, base), impl.RoundNear(x, base); down != -1 || near != -1 {
		t.Fatalf("RoundDown of %d for %d is %d, and RoundNear %d", x, base, down, near)
	}
	if draw := impl.RoundDraw(x, base, lot); draw != -1 {
		t.Fatalf("RoundDraw of %d for %d and the lot %d is %d", x, base, lot, draw)
	}
	expectNoEnds(t, x, base)
}

// expectNoEnds expects that RoundLow and RoundHigh refuse a multiple and a base.
func expectNoEnds(t *testing.T, y int, base int) {
	t.Helper()
	if low, high := impl.RoundLow(y, base), impl.RoundHigh(y, base); low != -1 || high != -1 {
		t.Fatalf("RoundLow of %d for %d is %d, and RoundHigh %d", y, base, low, high)
	}
}

// roundCall is one call of a function of chapter 21, and what it must return.
type roundCall struct {
	name         string
	x, base, lot int
	want         int
}

// ask calls the function.
func (c roundCall) ask() int {
	switch c.name {
	case "RoundDown":
		return impl.RoundDown(c.x, c.base)
	case "RoundNear":
		return impl.RoundNear(c.x, c.base)
	case "RoundDraw":
		return impl.RoundDraw(c.x, c.base, c.lot)
	case "RoundLow":
		return impl.RoundLow(c.x, c.base)
	case "RoundHigh":
		return impl.RoundHigh(c.x, c.base)
	}
	panic("there is no function " + c.name)
}

// expect expects that a call returns what it must.
func (c roundCall) expect(t *testing.T) {
	t.Helper()
	if got := c.ask(); got != c.want {
		t.Fatalf("%s of %d for %d and the lot %d is %d, not %d", c.name, c.x, c.base, c.lot, got, c.want)
	}
}

// goodCalls returns calls of all functions with some numbers, bases and lots in their ranges.
func goodCalls(bases []int) []roundCall {
	var out []roundCall
	for _, base := range bases {
		own := ownRoundings(base)
		low, high := own.ends()
		for _, x := range someCounts(base) {
			out = append(out,
				roundCall{"RoundDown", x, base, 0, own.down[x]},
				roundCall{"RoundNear", x, base, 0, own.near(x)},
				roundCall{"RoundLow", x, base, 0, low[x]},
				roundCall{"RoundHigh", x, base, 0, high[x]})
			for _, lot := range someLots(x, base) {
				out = append(out, roundCall{"RoundDraw", x, base, lot, own.draw(x, lot)})
			}
		}
	}
	return out
}

// refusedCalls returns calls of all functions with a number, a base or a lot that is not in its range.
func refusedCalls() []roundCall {
	var out []roundCall
	for _, name := range []string{"RoundDown", "RoundNear", "RoundDraw", "RoundLow", "RoundHigh"} {
		for _, c := range [][2]int{{-1, 5}, {impl.CountMax + 1, 5}, {60, 1}, {60, impl.BaseMax + 1}, {-1, 1}, {math.MinInt, 0}, {60, math.MaxInt}} {
			out = append(out, roundCall{name, c[0], c[1], 0, -1})
		}
	}
	return append(out, roundCall{"RoundDraw", 13, 5, -1, -1}, roundCall{"RoundDraw", 13, 5, 5, -1})
}
