package tests

import (
	"math"
	"slices"
	"testing"

	"loop.example/disclosurecontrol/impl"
)

// TestPatternHelpers keeps the tests below from passing because they never meet what they are about.
func TestPatternHelpers(t *testing.T) {
	met := map[string]int{}
	count := func(name string, is bool) {
		if is {
			met[name]++
		}
	}
	growings := sampleGrowings()
	for _, g := range growings {
		s, n := sizeOf(g.table), manySet(g.first)
		count("one row", s.rows == 1 && s.columns == impl.SideMax && n > 0 && g.n > 0)
		count("one column", s.rows == impl.SideMax && s.columns == 1 && n > 0 && g.n > 0)
		count("all sides", s == size{impl.SideMax, impl.SideMax} && n > 0 && g.n > 0)
		count("no first cell", n == 0)
		count("one first cell", n == 1)
		count("all first", n == s.rows*s.columns)
		count("no hidden cell", n > 0 && manySet(g.mask) == 0)
		count("all hidden", n > 0 && manySet(g.mask) == s.rows*s.columns)
		count("not kept", manySet(g.mask) > 0 && !covers(g.mask, g.first))
		count("distance 0", n > 0 && g.n == 0)
		count("distance CellMax", n > 0 && g.n == impl.CellMax)
		eachPlace(g.table, func(row int, column int) {
			v, safe := g.table[row][column], g.n > 0 && g.ownSafe(row, column)
			count("safe 0", safe && v == 0)
			count("safe CellMax", safe && v == impl.CellMax)
			count("safe and less than the distance", safe && v > 0 && v < g.n)
			count("safe just by the distance", safe && !g.apart(g.n+1).ownSafe(row, column))
			count("just not safe", g.n > 0 && g.mask[row][column] && !g.ownSafe(row, column) && g.apart(g.n-1).ownSafe(row, column))
			low, high := g.cut(row, column)
			count("not safe by the greatest number", g.mask[row][column] && high-v < g.n && low <= max(0, v-g.n))
			count("not safe by the least number", g.mask[row][column] && high-v >= g.n && low > max(0, v-g.n))
			count("not safe by the least number, not 0", g.mask[row][column] && high-v >= g.n && low > 0 && v < g.n)
		})
		g.countSteps(count)
	}
	if len(met) != 34 || len(growings) < 3000 {
		t.Errorf("only met %d: %v, and %d samples", len(met), met, len(growings))
	}
	for name, n := range met {
		if n < 5 {
			t.Errorf("%q is only met %d times", name, n)
		}
	}
}

// countSteps tells what the steps from a first and a second mask are like, and how the first mask grows.
func (g growing) countSteps(count func(name string, is bool)) {
	s, unmet := sizeOf(g.table), g.ownUnmet()
	if len(unmet) > 0 && s.rows > 1 && s.columns > 1 {
		choices := g.choices(unmet[0][0], unmet[0][1])
		count("no rectangle left", len(choices) == 0)
		count("some rectangles are hidden", len(choices) > 0 && len(choices) < (s.rows-1)*(s.columns-1))
		if len(choices) > 0 {
			best := cheapest(choices)
			same := slices.DeleteFunc(slices.Clone(choices), func(c choice) bool { return c.cost > best.cost })
			added := manySet(best.mask) - manySet(g.mask)
			count("several cheapest", len(same) > 1)
			count("the first is the cheapest", len(choices) > 1 && len(same) == 1 && sameRows(choices[0].mask, best.mask))
			count("a later one is the cheapest", !sameRows(choices[0].mask, best.mask))
			count("the cheapest costs nothing", best.cost == 0)
			count("one new cell", added == 1)
			count("two new cells", added == 2)
			count("three new cells", added == 3)
			count("four new cells", added == 4)
		}
	}
	masks, ok := g.ownGrown()
	count("grows by one step", ok && len(masks) == 2)
	count("grows by two steps", ok && len(masks) == 3)
	count("grows by several steps", ok && len(masks) > 3)
	count("cannot grow", !ok && len(masks) == 1)
	count("cannot grow behind a step", !ok && len(masks) > 1)
}

func TestPromise139LesserDistances(t *testing.T) {
	k := 0
	eachSafe(t, func(g growing, row int, column int) {
		if k++; k%4 == 0 || g.n < 3 {
			for n := range g.n {
				if !g.apart(n).safe(row, column) {
					t.Errorf("PatternSafe at %d, %d of %v does not hold for %d", row, column, g, n)
				}
			}
		}
		v := g.table[row][column]
		if g.high(row, column) < v+g.n || g.low(row, column) > max(0, v-g.n) {
			t.Errorf("PatternSafe at %d, %d of %v holds, and the bounds are %d and %d", row, column, g, g.low(row, column), g.high(row, column))
		}
	})
}

func TestPromise140FurtherHidden(t *testing.T) {
	eachSafe(t, func(g growing, row int, column int) {
		eachFurther(g.mask, func(more [][]bool) {
			if !g.masked(more).safe(row, column) {
				t.Errorf("PatternSafe at %d, %d of %v does not hold with %v", row, column, g, more)
			}
		})
		if g.n >= 1 && g.told(row, column) {
			t.Errorf("PatternSafe at %d, %d of %v holds, and the cell is told", row, column, g)
		}
	})
}

func TestPromise141OkIsSafe(t *testing.T) {
	eachOk(t, func(g growing) {
		eachPlace(g.first, func(row int, column int) {
			if g.first[row][column] && !g.safe(row, column) {
				t.Errorf("PatternOk of %v holds, and PatternSafe at %d, %d does not", g, row, column)
			}
		})
		if g.need() != 0 {
			t.Errorf("PatternOk of %v holds, and PatternNeed is %d", g, g.need())
		}
		eachFurther(g.mask, func(more [][]bool) {
			if !g.masked(more).ok() {
				t.Errorf("PatternOk of %v does not hold with %v", g, more)
			}
		})
	})
}

func TestPromise142NeedCounted(t *testing.T) {
	grown := 0
	for _, g := range sampleGrowings() {
		n, many := g.need(), 0
		eachPlace(g.first, func(row int, column int) {
			if g.first[row][column] && !g.safe(row, column) {
				many++
			}
		})
		if n != many || n > impl.MaskMany(g.first) {
			t.Errorf("PatternNeed of %v is %d, and PatternSafe does not hold for %d", g, n, many)
		}
		for _, further := range []int{g.n + 1, g.n + 7, (g.n + impl.CellMax) / 2, impl.CellMax} {
			if further <= g.n || further > impl.CellMax {
				continue
			}
			if got := g.apart(further).need(); got < n {
				t.Errorf("PatternNeed of %v is %d, and for the distance %d only %d", g, n, further, got)
			} else if got > n {
				grown++
			}
		}
	}
	if grown < 1000 {
		t.Errorf("PatternNeed is only greater for a greater distance %d times", grown)
	}
}

func TestPromise143StepHidesMore(t *testing.T) {
	met := map[int]int{}
	eachStep(t, func(g growing, next [][]bool) {
		added := manySet(next) - manySet(g.mask)
		met[added]++
		if !impl.MaskValid(g.table, next) || !covers(next, g.mask) || added < 1 || added > 4 {
			t.Errorf("PatternStep of %v is %v", g, next)
		}
		if got := g.masked(next).need(); got > g.need() {
			t.Errorf("PatternNeed of %v is %d, and behind a step %d", g, g.need(), got)
		}
	})
	if met[1] < 20 || met[2] < 20 || met[3] < 20 || met[4] < 20 {
		t.Errorf("steps with new cells are met: %v", met)
	}
}

func TestPromise144GrownIsOk(t *testing.T) {
	eachGrown(t, func(g growing, pattern [][]bool) {
		if !g.masked(pattern).ok() || !covers(pattern, g.first) {
			t.Errorf("PatternGrow of %v from %v for %d is %v", g.table, g.first, g.n, pattern)
		}
	})
}

func TestPromise145GrownFromStep(t *testing.T) {
	eachGrown(t, func(g growing, pattern [][]bool) {
		start := g.masked(g.first)
		if start.ok() {
			if !sameRows(pattern, g.first) {
				t.Errorf("PatternOk of %v holds, and PatternGrow is %v", start, pattern)
			}
			return
		}
		if next, ok := start.step(); !ok || !covers(pattern, next) {
			t.Errorf("PatternStep of %v is %v, %v, and PatternGrow %v", start, next, ok, pattern)
		}
	})
}

func TestPromise146GrownForNothing(t *testing.T) {
	for _, g := range sampleGrowings() {
		for _, still := range []growing{g.apart(0), g.wanting(uniform(sizeOf(g.table), false))} {
			if pattern, ok := still.grown(); !ok || !sameRows(pattern, still.first) {
				t.Errorf("PatternGrow of %v from %v for %d is %v, %v", still.table, still.first, still.n, pattern, ok)
			}
		}
	}
}

func TestPromise147CostOfBoth(t *testing.T) {
	for _, h := range sampleHidings() {
		cost, rest := h.cost(), h.by(without(h.all().mask, h.mask)).cost()
		if cost < 0 || rest < 0 || cost+rest != impl.TableTotal(h.table) {
			t.Errorf("PatternCost of %v is %d, and that of the others %d", h, cost, rest)
		}
		eachFurther(h.mask, func(more [][]bool) {
			if got := h.by(more).cost(); got < cost {
				t.Errorf("PatternCost of %v is %d, and of %v only %d", h, cost, more, got)
			}
		})
	}
}

func TestPromise148AllHidden(t *testing.T) {
	eachGrown(t, func(g growing, _ [][]bool) {
		if !g.masked(g.all().mask).ok() {
			t.Errorf("PatternGrow of %v from %v for %d succeeds, and PatternOk with all cells hidden does not hold", g.table, g.first, g.n)
		}
	})
}

func TestPromise149SafeTurned(t *testing.T) {
	eachSafe(t, func(g growing, row int, column int) {
		if !(growing{hiding{turnedBy(t, g.table), turned(g.mask)}, turned(g.first), g.n}).safe(column, row) {
			t.Errorf("PatternSafe at %d, %d of %v does not hold turned", row, column, g)
		}
	})
}

func TestPromise150OkTurned(t *testing.T) {
	l := &lots{state: 51}
	eachOk(t, func(g growing) {
		if !(growing{hiding{turnedBy(t, g.table), turned(g.mask)}, turned(g.first), g.n}).ok() {
			t.Errorf("PatternOk of %v does not hold turned", g)
		}
		fewer := func(less [][]bool) {
			if !g.wanting(less).ok() {
				t.Errorf("PatternOk of %v does not hold for only %v", g, less)
			}
		}
		eachFewer(g.first, fewer)
		fewer(without(g.first, l.flags(sizeOf(g.first), 2)))
		fewer(uniform(sizeOf(g.first), false))
	})
}

func TestPromise151NeedOfMoreAndLess(t *testing.T) {
	helped, less, same := 0, 0, 0
	for k, g := range sampleGrowings() {
		if k%2 == 0 {
			continue
		}
		need := g.need()
		eachFurther(g.mask, func(more [][]bool) {
			if got := g.masked(more).need(); got > need {
				t.Errorf("PatternNeed of %v is %d, and with %v hidden %d", g, need, more, got)
			} else if got < need {
				helped++
			}
		})
		eachFewer(g.first, func(fewer [][]bool) {
			switch got := g.wanting(fewer).need(); got {
			case need:
				same++
			case need - 1:
				less++
			default:
				t.Errorf("PatternNeed of %v is %d, and of %v %d", g, need, fewer, got)
			}
		})
	}
	if helped < 500 || less < 500 || same < 500 {
		t.Errorf("a further hidden cell helps %d times, and with a first cell less PatternNeed is less %d times and the same %d times", helped, less, same)
	}
}

func TestPromise152CostOfGrown(t *testing.T) {
	eachGrown(t, func(g growing, pattern [][]bool) {
		least, cost := g.by(g.first).cost(), g.by(pattern).cost()
		if cost < least || cost > impl.TableTotal(g.table) {
			t.Errorf("PatternCost of %v is %d, and of %v %d", g.first, least, pattern, cost)
		}
	})
}

// TestPromise153OneRow has all first masks of all tables of one row or one column; the lots of one cell and of SideMax cells are among them.
func TestPromise153OneRow(t *testing.T) {
	l := &lots{state: 52}
	succeeded, failed := 0, 0
	for _, s := range everySize() {
		if s.rows > 1 && s.columns > 1 {
			continue
		}
		for _, table := range boundTables(l, s) {
			for _, first := range everyMask(s) {
				for _, n := range []int{1, 2, 1 + l.below(impl.CellMax), impl.CellMax} {
					pattern, ok := growing{hiding{table: table}, first, n}.grown()
					if ok && manySet(first) > 0 {
						t.Errorf("PatternGrow of %v from %v for %d is %v", table, first, n, pattern)
					}
					if ok {
						succeeded++
					} else {
						failed++
					}
				}
			}
		}
	}
	if succeeded < 300 || failed < 2000 {
		t.Errorf("PatternGrow of one row or column succeeds %d times and fails %d times", succeeded, failed)
	}
}

func TestPromise154StepHidesTwo(t *testing.T) {
	two := func(next [][]bool, mask [][]bool) bool {
		added := without(next, mask)
		for row := range next {
			if hiddenIn(added[row], -1) > 0 && hiddenIn(next[row], -1) >= 2 {
				return true
			}
		}
		return false
	}
	eachStep(t, func(g growing, next [][]bool) {
		if !two(next, g.mask) || !two(turned(next), turned(g.mask)) {
			t.Errorf("PatternStep of %v is %v", g, next)
		}
	})
}

func TestPromise155SafeIsHidden(t *testing.T) {
	eachSafe(t, func(g growing, row int, column int) {
		if !g.apart(0).safe(row, column) || !g.mask[row][column] {
			t.Errorf("PatternSafe at %d, %d of %v holds, and for 0 it is %v", row, column, g, g.apart(0).safe(row, column))
		}
	})
	for _, g := range sampleGrowings() {
		eachPlace(g.mask, func(row int, column int) {
			for _, n := range []int{0, 1, g.n} {
				if !g.mask[row][column] && g.apart(n).safe(row, column) {
					t.Errorf("PatternSafe at %d, %d of %v for %d holds", row, column, g, n)
				}
			}
			if g.mask[row][column] && !g.apart(0).safe(row, column) {
				t.Errorf("PatternSafe at %d, %d of %v for 0 does not hold", row, column, g)
			}
		})
	}
}

func TestPromise156OkHidesTwo(t *testing.T) {
	eachOk(t, func(g growing) {
		eachPlace(g.first, func(row int, column int) {
			if !g.first[row][column] {
				return
			}
			if low := g.low(row, column); low > max(0, g.table[row][column]-g.n) {
				t.Errorf("PatternOk of %v holds, and BoundLow at %d, %d is %d", g, row, column, low)
			}
			if g.n >= 1 && (hiddenIn(g.mask[row], column) == 0 || hiddenIn(turned(g.mask)[column], row) == 0) {
				t.Errorf("PatternOk of %v holds, and no other cell is hidden beside %d, %d", g, row, column)
			}
		})
	})
}

func TestPromise157NeedOfNone(t *testing.T) {
	for _, g := range sampleGrowings() {
		none := uniform(sizeOf(g.table), false)
		if got := g.wanting(none).need(); got != 0 || !g.wanting(none).ok() {
			t.Errorf("PatternNeed of %v without first cells is %d", g, got)
		}
		if got := g.masked(none).need(); got != manySet(g.first) {
			t.Errorf("PatternNeed of %v without hidden cells is %d", g, got)
		}
	}
}

// TestPatternsCounted holds tables of all sizes against the bounds that sums tell, and against choices that are all listed.
func TestPatternsCounted(t *testing.T) {
	for _, g := range sampleGrowings() {
		g.expectAnswers(t)
	}
}

// TestPatternSafeAtTheEdge has each cell of many tables with the distances for which it is just safe and just not safe, and others.
func TestPatternSafeAtTheEdge(t *testing.T) {
	met := 0
	for _, h := range sampleHidings() {
		eachPlace(h.mask, func(row int, column int) {
			edge := h.edge(row, column)
			for _, n := range []int{0, 1, edge - 1, edge, edge + 1, edge + 2, impl.CellMax - 1, impl.CellMax} {
				if n < 0 || n > impl.CellMax {
					continue
				}
				if edge > 0 {
					met++
				}
				want := h.mask[row][column] && n <= edge
				if impl.PatternSafe(h.table, h.mask, row, column, n) != want {
					t.Errorf("PatternSafe at %d, %d of %v for %d is %v", row, column, h, n, !want)
				}
			}
		})
	}
	if met < 20000 {
		t.Errorf("only met %d distances of cells that are not told", met)
	}
}

// smallGrowings is how great the numbers and the distances of all small tables of a size are, and of how many first and second masks of a table one pair is taken.
type smallGrowings struct {
	size
	most, far, some int
}

// TestPatternsOfSmallTables has all small tables with all first and second masks, or with some of them.
func TestPatternsOfSmallTables(t *testing.T) {
	for _, small := range []smallGrowings{
		{size{1, 1}, 3, 4, 1}, {size{1, 2}, 2, 3, 1}, {size{2, 1}, 2, 3, 1}, {size{1, 3}, 1, 2, 1}, {size{3, 1}, 1, 2, 1}, {size{1, 4}, 1, 2, 3}, {size{4, 1}, 1, 2, 3},
		{size{2, 2}, 2, 3, 2}, {size{2, 3}, 1, 2, 13}, {size{3, 2}, 1, 2, 13},
	} {
		masks, k := everyMask(small.size), 0
		everySmallTable(small.size, small.most, func(table [][]int) {
			for _, first := range masks {
				for _, mask := range masks {
					if k++; k%small.some == 0 {
						growing{hiding{table, mask}, first, k / small.some % (small.far + 1)}.expectAnswers(t)
					}
				}
			}
		})
	}
}

// TestPatternsOfSmallTablesGrow has all small tables with all first masks, or with some of them.
func TestPatternsOfSmallTablesGrow(t *testing.T) {
	for _, small := range []smallGrowings{
		{size{2, 2}, 3, 5, 1}, {size{2, 3}, 2, 3, 5}, {size{3, 2}, 2, 3, 5}, {size{3, 3}, 1, 2, 97}, {size{2, 4}, 1, 2, 31}, {size{4, 2}, 1, 2, 31},
	} {
		masks, k := everyMask(small.size), 0
		everySmallTable(small.size, small.most, func(table [][]int) {
			for _, first := range masks {
				for n := range small.far + 1 {
					if k++; k%small.some == 0 {
						growing{hiding{table: table}, first, n}.expectGrown(t)
					}
				}
			}
		})
	}
}

// TestPatternsThatGrow has great tables with few first cells and distances for which they often need several steps.
func TestPatternsThatGrow(t *testing.T) {
	l := &lots{state: 53}
	steps := map[int]int{}
	for range 1200 {
		s := size{2 + l.below(3), 2 + l.below(3)}
		g := growing{hiding{table: l.drawn(s, []int{3, 20, impl.CellMax}[l.below(3)])}, l.flags(s, 2+l.below(8)), 1 + l.below(40)}
		g.expectGrown(t)
		if masks, ok := g.ownGrown(); ok {
			steps[len(masks)-1]++
		} else {
			steps[-len(masks)]++
		}
	}
	// A mask that cannot grow at all has no rectangle left.
	for _, n := range []int{1, 2, 3, 4, 5, -2, -3, -4, -5} {
		if steps[n] < 8 {
			t.Errorf("steps are met: %v", steps)
		}
	}
}

// marked returns a mask with the cells of a picture set that are an x.
func marked(rows ...string) [][]bool {
	return filled(size{len(rows), len(rows[0])}, func(row int, column int) bool { return rows[row][column] == 'x' })
}

// TestPatternSafeByHand has the greatest distance for which each cell is safe, or -1 if it is for none.
func TestPatternSafeByHand(t *testing.T) {
	for _, c := range []struct {
		table [][]int
		mask  [][]bool
		most  [][]int
	}{
		{[][]int{{5}}, marked("x"), [][]int{{0}}},
		{[][]int{{5}}, marked("."), [][]int{{-1}}},
		{[][]int{{0, 99, 3, 4}}, marked("xx.x"), [][]int{{0, 0, -1, 0}}},
		{[][]int{{0}, {99}, {3}, {4}}, marked("x", "x", ".", "x"), [][]int{{0}, {0}, {-1}, {0}}},
		// The bounds are 0 to 3, 0 to 3, 1 to 4 and 3 to 6.
		{[][]int{{1, 2}, {3, 4}}, marked("xx", "xx"), [][]int{{2, 1}, {1, 1}}},
		{[][]int{{1, 2}, {3, 4}}, marked("xx", "x."), [][]int{{0, 0}, {0, -1}}},
		// 5 is 2 to 14, and 3 is 0 to 12; 9 is 4 to 12.
		{[][]int{{5, 9}, {9, 3}}, marked("xx", "xx"), [][]int{{3, 3}, {3, 9}}},
		{[][]int{{0, 2}, {3, 0}}, marked("xx", "xx"), [][]int{{2, 0}, {0, 2}}},
		{[][]int{{0, 0}, {0, 0}}, marked("xx", "xx"), [][]int{{0, 0}, {0, 0}}},
		{[][]int{{0, 99}, {99, 99}}, marked("xx", "xx"), [][]int{{99, 0}, {0, 0}}},
		{[][]int{{99, 99}, {99, 99}}, marked("xx", "xx"), [][]int{{99, 99}, {99, 99}}},
		{[][]int{{99, 99}, {99, 98}}, marked("xx", "xx"), [][]int{{98, 98}, {98, 99}}},
		// A ring of six cells: the first one can be greater by 1 and less by 5.
		{[][]int{{5, 1, 8}, {8, 6, 2}, {3, 8, 7}}, marked("xx.", ".xx", "x.x"), [][]int{{1, 5, -1}, {-1, 1, 1}, {1, -1, 1}}},
	} {
		eachPlace(c.table, func(row int, column int) {
			for n := range impl.CellMax + 1 {
				if got := impl.PatternSafe(c.table, c.mask, row, column, n); got != (n <= c.most[row][column]) {
					t.Errorf("PatternSafe at %d, %d of %v and %v for %d is %v", row, column, c.table, c.mask, n, got)
				}
			}
		})
	}
}

func TestPatternStepByHand(t *testing.T) {
	mixed := [][]int{{1, 5, 9}, {8, 4, 7}, {6, 9, 9}}
	even := [][]int{{9, 4, 4, 7}, {4, 4, 0, 7}, {4, 0, 4, 7}}
	for _, c := range []struct {
		table             [][]int
		first, mask, want [][]bool
		n, need           int
	}{
		{mixed, marked("x..", "...", "..."), marked("x..", "...", "..."), marked("xx.", "xx.", "..."), 1, 1},
		{mixed, marked("x..", "...", "..."), marked("xx.", "xx.", "..."), nil, 5, 0},
		{mixed, marked("x..", "...", "..."), marked("xx.", "xx.", "..."), marked("xx.", "xx.", "xx."), 6, 1},
		{mixed, marked("x..", "...", "..."), marked("xx.", "xx.", "xx."), marked("xxx", "xxx", "xx."), 6, 1},
		{mixed, marked("x..", "...", "..."), marked("xxx", "xxx", "xx."), nil, 14, 0},
		{mixed, marked("x..", "...", "..."), marked("xxx", "xxx", "xx."), marked("xxx", "xxx", "xxx"), 15, 1},
		{mixed, marked("x..", "...", "..."), marked("xxx", "xxx", "xxx"), nil, 15, 1},
		// A first cell that the second mask does not keep, for a distance for which all hidden cells are safe.
		{mixed, marked("...", "..x", "..."), marked("x..", "...", "..."), marked("x.x", "x.x", "..."), 0, 1},
		{mixed, marked("x..", "...", "..."), marked("...", "...", "..."), marked("xx.", "xx.", "..."), 0, 1},
		{mixed, marked("x..", "...", "..."), marked("x..", "...", "..."), nil, 0, 0},
		{mixed, marked("...", "...", "..."), marked("x..", "...", "..."), nil, 99, 0},
		// The first one of several first cells counts, row by row, and only those that are not safe.
		{[][]int{{50, 1, 9}, {8, 60, 7}, {1, 9, 9}}, marked("..x", "x..", "..."), marked("..x", "x..", "..."), marked(".xx", "x..", ".xx"), 1, 2},
		{[][]int{{50, 1, 9}, {8, 60, 7}, {1, 9, 9}}, marked("...", "x..", "..."), marked("..x", "x..", "..."), marked("..x", "x.x", "x.x"), 1, 1},
		{mixed, marked("xx.", "...", "..x"), marked("xx.", "xx.", "..x"), marked("xx.", "xxx", "x.x"), 1, 1},
		// Hidden cells cost nothing, however great their numbers are.
		{mixed, marked("x..", "...", "..."), marked("x.x", "...", "..x"), marked("x.x", "...", "x.x"), 1, 1},
		// Two rectangles cost 8 less the first cell: that of the second row is earlier.
		{even, marked("x...", "....", "...."), marked("x...", "....", "...."), marked("x.x.", "x.x.", "...."), 1, 1},
		{even, marked("x...", "....", "...."), marked("....", "....", "...."), marked("x.x.", "x.x.", "...."), 1, 1},
		// Of the same row, that of the earlier column.
		{[][]int{{3, 1, 1, 1}, {2, 1, 1, 1}}, marked("x...", "...."), marked("x...", "...."), marked("xx..", "xx.."), 1, 1},
		{[][]int{{1, 1, 1, 3}, {1, 1, 1, 2}}, marked("...x", "...."), marked("...x", "...."), marked("x..x", "x..x"), 1, 1},
		{[][]int{{1, 1, 3, 1}, {1, 1, 2, 1}}, marked("....", "..x."), marked("....", "..x."), marked("x.x.", "x.x."), 1, 1},
		// A rectangle of zeros costs nothing, and so does one that is hidden already, which is left out.
		{[][]int{{0, 0, 0}, {0, 0, 0}}, marked("x..", "..."), marked("xx.", "xx."), marked("xxx", "xxx"), 1, 1},
		{[][]int{{0, 0, 0}, {0, 0, 0}}, marked("x..", "..."), marked("xxx", "xxx"), nil, 1, 1},
		// No other row, and no other column.
		{[][]int{{1, 2, 3}}, marked("x.."), marked("..."), nil, 0, 1},
		{[][]int{{1, 2, 3}}, marked("x.."), marked("x.."), nil, 1, 1},
		{[][]int{{1}, {2}, {3}}, marked("x", ".", "."), marked(".", ".", "."), nil, 0, 1},
		{[][]int{{1}}, marked("x"), marked("x"), nil, 1, 1},
	} {
		g := growing{hiding{c.table, c.mask}, c.first, c.n}
		got, ok := g.step()
		if ok != (c.want != nil) || !sameRows(got, c.want) || g.need() != c.need || g.ok() != (c.need == 0) {
			t.Errorf("PatternStep of %v is %v, %v, and PatternNeed %d", g, got, ok, g.need())
		}
	}
}

func TestPatternGrowByHand(t *testing.T) {
	mixed := [][]int{{1, 5, 9}, {8, 4, 7}, {6, 9, 9}}
	great := uniform(size{4, 4}, impl.CellMax)
	corner := marked("x...", "....", "....", "....")
	for _, c := range []struct {
		table       [][]int
		first, want [][]bool
		low, high   int
		cost        int
	}{
		{mixed, marked("x..", "...", "..."), marked("x..", "...", "..."), 0, 0, 1},
		{mixed, marked("x..", "...", "..."), marked("xx.", "xx.", "..."), 1, 5, 18},
		{mixed, marked("x..", "...", "..."), marked("xxx", "xxx", "xx."), 6, 14, 49},
		{mixed, marked("x..", "...", "..."), nil, 15, 99, -1},
		{mixed, marked("...", "...", "..."), marked("...", "...", "..."), 0, 99, 0},
		{great, corner, marked("xx..", "xx..", "....", "...."), 1, 99, 4 * 99},
		{great, uniform(size{4, 4}, true), uniform(size{4, 4}, true), 0, 99, 16 * 99},
		{uniform(size{4, 4}, 0), corner, nil, 1, 99, -1},
		{[][]int{{0, 3}, {2, 0}}, marked("x.", ".."), marked("xx", "xx"), 1, 2, 5},
		{[][]int{{0, 3}, {2, 0}}, marked("x.", ".."), nil, 3, 99, -1},
		{[][]int{{0, 3}, {2, 0}}, marked(".x", ".."), nil, 1, 99, -1},
		{[][]int{{1, 2, 3, 4}}, marked("x..."), marked("x..."), 0, 0, 1},
		{[][]int{{1, 2, 3, 4}}, marked("xxxx"), marked("xxxx"), 0, 0, 10},
		{[][]int{{1, 2, 3, 4}}, marked("xxxx"), nil, 1, 99, -1},
		{[][]int{{1, 2, 3, 4}}, marked("...."), marked("...."), 0, 99, 0},
		{[][]int{{1}, {2}}, marked("x", "x"), nil, 1, 99, -1},
	} {
		for n := c.low; n <= c.high; n++ {
			g := growing{hiding{table: c.table}, c.first, n}
			got, ok := g.grown()
			if ok != (c.want != nil) || !sameRows(got, c.want) || ok && g.by(got).cost() != c.cost {
				t.Errorf("PatternGrow of %v from %v for %d is %v, %v", c.table, c.first, n, got, ok)
			}
		}
	}
}

// TestPatternTies has tables of equal numbers, for which the earliest row and column count alone.
func TestPatternTies(t *testing.T) {
	for _, s := range everySize() {
		for _, v := range []int{0, 1, impl.CellMax} {
			none := uniform(s, false)
			eachPlace(none, func(row int, column int) {
				first := withCell(none, row, column, true)
				got, ok := growing{hiding{uniform(s, v), none}, first, 0}.step()
				if s.rows == 1 || s.columns == 1 {
					if ok || len(got) > 0 {
						t.Errorf("PatternStep of %v is %v, %v", first, got, ok)
					}
					return
				}
				other := [2]int{0, 0}
				if row == 0 {
					other[0] = 1
				}
				if column == 0 {
					other[1] = 1
				}
				want := withCell(withCell(first, row, other[1], true), other[0], column, true)
				if !ok || !sameRows(got, withCell(want, other[0], other[1], true)) {
					t.Errorf("PatternStep of %v in equal numbers is %v, %v", first, got, ok)
				}
			})
		}
	}
}

// TestPatternCostCounted holds PatternCost against a sum that is made without the program.
func TestPatternCostCounted(t *testing.T) {
	for _, h := range sampleHidings() {
		want := 0
		eachPlace(h.mask, func(row int, column int) {
			if h.mask[row][column] {
				want += h.table[row][column]
			}
		})
		if h.cost() != want {
			t.Errorf("PatternCost of %v is %d, not %d", h, h.cost(), want)
		}
	}
}

func TestPatternSafeOutside(t *testing.T) {
	for i, h := range sampleHidings() {
		if i%3 != 0 {
			continue
		}
		for _, g := range []growing{{hiding: h}, {hiding: h.all()}} {
			for _, p := range outside(sizeOf(h.table)) {
				for _, n := range []int{0, 1, impl.CellMax, -1} {
					if g.apart(n).safe(p[0], p[1]) {
						t.Errorf("PatternSafe at %v of %v for %d holds", p, g.hiding, n)
					}
				}
			}
		}
	}
}

func TestPatternsOfBadDistances(t *testing.T) {
	for i, g := range sampleGrowings() {
		if i%3 != 0 {
			continue
		}
		// Without first cells, and with all of them hidden, no cell needs anything.
		none, all := uniform(sizeOf(g.table), false), uniform(sizeOf(g.table), true)
		for _, n := range badDistances() {
			for _, bad := range []growing{g.apart(n), g.apart(n).wanting(none), g.apart(n).masked(all), g.apart(n).masked(all).wanting(none)} {
				bad.expectNone(t)
				bad.expectNoGrown(t)
				eachPlace(g.table, func(row int, column int) {
					if bad.safe(row, column) {
						t.Errorf("PatternSafe at %d, %d of %v holds", row, column, bad)
					}
				})
			}
		}
	}
}

// TestPatternsOfInvalidTables has masks that would fit if the table were one, and others.
func TestPatternsOfInvalidTables(t *testing.T) {
	for _, table := range invalidTables() {
		all, none := make([][]bool, len(table)), make([][]bool, len(table))
		for row := range table {
			all[row], none[row] = slices.Repeat([]bool{true}, len(table[row])), make([]bool, len(table[row]))
		}
		masks := [][][]bool{all, none, nil, {{true}}, uniform(size{2, 2}, true), uniform(size{4, 4}, false)}
		for i, mask := range masks {
			h := hiding{table, mask}
			h.expectNoSafe(t)
			for _, first := range [][][]bool{mask, none, masks[(i+1)%len(masks)]} {
				for _, n := range []int{0, 1, impl.CellMax} {
					g := growing{h, first, n}
					g.expectNone(t)
					g.expectNoGrown(t)
				}
			}
		}
	}
}

// TestPatternsOfInvalidMasks has an invalid mask in the place of the first one, of the second one, and of both.
func TestPatternsOfInvalidMasks(t *testing.T) {
	for _, s := range everySize() {
		bad := append(otherMasks(s), slices.DeleteFunc(anyMasks(), rightLengths[bool])[:50]...)
		for _, table := range [][][]int{uniform(s, 0), numbered(s), uniform(s, impl.CellMax)} {
			for _, mask := range bad {
				hiding{table, mask}.expectNoSafe(t)
				for _, good := range [][][]bool{uniform(s, true), uniform(s, false)} {
					for _, n := range []int{0, 1, impl.CellMax} {
						growing{hiding{table, mask}, good, n}.expectNone(t)
						growing{hiding{table, good}, mask, n}.expectNone(t)
						growing{hiding{table, mask}, mask, n}.expectNone(t)
						growing{hiding{table, good}, mask, n}.expectNoGrown(t)
					}
				}
			}
		}
	}
}

// TestPatternsOfExtremes has the least and the greatest integers in all places.
func TestPatternsOfExtremes(t *testing.T) {
	numbers := []int{math.MinInt, math.MinInt + 1, -1, 0, 1, math.MaxInt - 1, math.MaxInt}
	h := hiding{table: [][]int{{3, 4}, {5, 6}}}.all()
	for _, i := range numbers {
		for _, j := range numbers {
			for _, n := range numbers {
				want := (i == 0 || i == 1) && (j == 0 || j == 1) && (n == 0 || n == 1)
				if impl.PatternSafe(h.table, h.mask, i, j, n) != want {
					t.Errorf("PatternSafe at %d, %d of %v for %d is %v", i, j, h, n, !want)
				}
			}
		}
	}
	for _, v := range badCells() {
		g := growing{h.of([][]int{{3, 4}, {v, 6}}), h.mask, 1}
		g.expectNoSafe(t)
		g.expectNone(t)
		g.expectNoGrown(t)
	}
}

// TestPatternArgumentsStay looks at the room behind the lists, too: a function must not write there either.
func TestPatternArgumentsStay(t *testing.T) {
	growings := sampleGrowings()
	for _, call := range patternCalls() {
		for i, g := range growings {
			if i%3 == 0 {
				g.expectStays(t, call)
			}
		}
		for i, table := range invalidTables() {
			if i%9 == 0 {
				growing{hiding{table, uniform(size{2, 3}, true)}, uniform(size{2, 3}, false), 1}.expectStays(t, call)
			}
		}
		for i, mask := range anyMasks() {
			s := everySize()[i%16]
			growing{hiding{numbered(s), mask}, uniform(s, true), 1}.expectStays(t, call)
			growing{hiding{numbered(s), uniform(s, true)}, mask, 1}.expectStays(t, call)
		}
	}
}

// TestPatternResultsAreNew has patterns that are the first mask, and others.
func TestPatternResultsAreNew(t *testing.T) {
	stepped, grown := 0, 0
	for _, g := range sampleGrowings() {
		if _, ok := g.step(); ok {
			stepped++
			g.expectNewMask(t, growing.step)
		}
		if _, ok := g.grown(); ok {
			grown++
			g.expectNewMask(t, growing.grown)
			// Both masks in the same memory.
			g.masked(g.first).expectNewMask(t, growing.grown)
		}
	}
	if stepped < 800 || grown < 1500 {
		t.Errorf("only met %d steps and %d patterns", stepped, grown)
	}
}

// TestPatternMasksInSameMemory has one list as both masks.
func TestPatternMasksInSameMemory(t *testing.T) {
	for _, g := range sampleGrowings() {
		same, apart := g.masked(g.first), g.masked(copied(g.first))
		if a, b := same.answers(), apart.answers(); !sameAnswers(a, b) {
			t.Errorf("the answers for %v are %v with both masks in the same memory, and otherwise %v", g, a, b)
		}
	}
}

// TestPatternsKeepNothing overwrites the arguments and the results of calls and expects that later calls with equal arguments tell the same.
func TestPatternsKeepNothing(t *testing.T) {
	for i, g := range sampleGrowings() {
		if i%2 == 0 {
			continue
		}
		used := growing{hiding{copied(g.table), copied(g.mask)}, copied(g.first), g.n}
		before := used.answers()
		if next, ok := used.step(); ok {
			eachPlace(next, func(row int, column int) { next[row][column] = !next[row][column] })
		}
		if pattern, ok := used.grown(); ok {
			eachPlace(pattern, func(row int, column int) { pattern[row][column] = !pattern[row][column] })
		}
		eachPlace(used.table, func(row int, column int) {
			used.table[row][column] = (used.table[row][column] + 31) % (impl.CellMax + 1)
			used.mask[row][column] = !used.mask[row][column]
			used.first[row][column] = !used.first[row][column]
		})
		used.expectAnswers(t)
		if after := g.answers(); !sameAnswers(after, before) {
			t.Errorf("the answers for %v have changed from %v to %v", g, before, after)
		}
	}
}
