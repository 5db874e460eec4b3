package tests

import (
	"fmt"
	"math"
	"slices"
	"sync"
	"testing"

	"loop.example/disclosurecontrol/impl"
)

// TestControlHelpers keeps the tests below from passing because they never meet what they are about.
func TestControlHelpers(t *testing.T) {
	met := map[string]int{}
	count := func(name string, is bool) {
		if is {
			met[name]++
		}
	}
	l := &lots{state: 85}
	for _, c := range sampleControls() {
		cells := slices.Concat(c.table...)
		uneven := c.uneven(cells)
		if !impl.TableValid(c.table) {
			t.Fatalf("%v is no table", c)
		}
		count("multiples alone", uneven == 0 && slices.Max(cells) > 0)
		count("one cell that is no multiple", uneven == 1 && len(cells) > 1)
		count("no multiple at all", uneven == len(cells))
		count("zeros", slices.Max(cells) == 0)
		count("CellMax", slices.Max(cells) == impl.CellMax)
		count("a base greater than all cells", slices.Max(cells) < c.base && slices.Max(cells) > 0)
		count("one row", len(c.table) == 1)
		count("one column", len(c.table[0]) == 1)
		count("9 cells", c.cells() == controlMost)
		count("12 cells", c.cells() == 12)
		count("16 cells", c.cells() == 16)
		count("a rounding with a cell greater than CellMax", slices.Max(cells)-slices.Max(cells)%c.base+c.base > impl.CellMax)
		rows, columns := rowTotals(c.table), columnTotals(c.table)
		count("multiples as sums of all rows", c.uneven(rows) == 0 && uneven > 0)
		count("multiples as sums of all columns", c.uneven(columns) == 0 && uneven > 0)
		count("a multiple as the total alone", c.uneven(rows) > 0 && c.uneven(columns) > 0 && total(rows)%c.base == 0)
		count("no multiple as a sum", c.uneven(rows) == len(rows) && c.uneven(columns) == len(columns) && total(rows)%c.base != 0)
		for _, x := range c.candidates(l) {
			count(fmt.Sprint("broken: ", c.broken(x)), true)
		}
		if c.small() {
			roundings := c.ownRoundings()
			least := ownFar(c.table, c.ownBest(roundings))
			nearest := slices.DeleteFunc(slices.Clone(roundings), func(x [][]int) bool { return ownFar(c.table, x) > least })
			count("several nearest roundings", len(nearest) > 1)
			count("one nearest rounding of several", len(nearest) == 1 && len(roundings) > 1)
		}
	}
	// Besides the names above: the cells, and all choices of the three kinds of sums.
	if len(met) != 18+1+8 {
		t.Errorf("met %d: %v", len(met), met)
	}
	for name, n := range met {
		if n < 20 {
			t.Errorf("%q is only met %d times", name, n)
		}
	}
}

func TestPromise188FitsNearSums(t *testing.T) {
	eachControlFit(t, func(c controlling, x [][]int) {
		eachPlace(x, func(row int, column int) {
			if v := x[row][column]; v%c.base != 0 || v-c.table[row][column] >= c.base || c.table[row][column]-v >= c.base {
				t.Fatalf("ControlFits of %v and %v holds", c, x)
			}
		})
		rows, all := rowTotals(x), rowTotals(c.table)
		if !c.near(rows, all) || !c.near(columnTotals(x), columnTotals(c.table)) || !c.near([]int{total(rows)}, []int{total(all)}) {
			t.Fatalf("ControlFits of %v and %v holds, and their sums are far", c, x)
		}
	})
}

func TestPromise189FitsTurned(t *testing.T) {
	met, wide := 0, 0
	eachControlFit(t, func(c controlling, x [][]int) {
		if !impl.TableValid(x) {
			return
		}
		met++
		if s := sizeOf(x); s.rows != s.columns {
			wide++
		}
		if !c.of(turnedBy(t, c.table)).fits(turnedBy(t, x)) {
			t.Fatalf("ControlFits of %v and %v holds, but not turned", c, x)
		}
	})
	if met < 10000 || wide < 5000 {
		t.Errorf("only met %d roundings that are tables, %d of them wide or high", met, wide)
	}
}

func TestPromise190RoundFits(t *testing.T) {
	eachRounded(t, func(c controlling, x [][]int) {
		if far := c.far(x); !c.fits(x) || far < 0 || far >= c.base*c.cells() {
			t.Fatalf("ControlRound of %v is %v, at %d", c, x, far)
		}
	})
}

func TestPromise191AlwaysOne(t *testing.T) {
	met := 0
	for _, table := range sampleTables() {
		for _, base := range everyBase() {
			c := controlling{table, base}
			if !c.small() {
				continue
			}
			met++
			c.expectRounded(t)
			if many := c.many(); many < 1 {
				t.Fatalf("ControlMany of %v is %d", c, many)
			}
		}
	}
	if met < 5000 {
		t.Errorf("only met %d tables", met)
	}
}

func TestPromise192MultiplesStay(t *testing.T) {
	multiples, again := 0, 0
	eachRounded(t, func(c controlling, x [][]int) {
		if c.uneven(slices.Concat(c.table...)) == 0 {
			multiples++
			if !sameRows(x, c.table) {
				t.Fatalf("ControlRound of %v is %v", c, x)
			}
		}
		if impl.TableValid(x) {
			again++
			if y := c.of(x).expectRounded(t); !sameRows(y, x) {
				t.Fatalf("ControlRound of %v is %v, and of this %v", c, x, y)
			}
		}
	})
	if multiples < 300 || again < 1500 {
		t.Errorf("only met %d tables of multiples, and %d roundings that are tables", multiples, again)
	}
}

func TestPromise193NoOtherMultipleIsNearer(t *testing.T) {
	fitting := 0
	eachRounded(t, func(c controlling, x [][]int) {
		eachPlace(x, func(row int, column int) {
			for _, v := range c.ownMultiples(c.table[row][column]) {
				other := withCell(x, row, column, v)
				if v == x[row][column] || !c.fits(other) {
					continue
				}
				fitting++
				if c.far(other) < c.far(x) {
					t.Fatalf("ControlRound of %v is %v, and %v is nearer", c, x, other)
				}
			}
		})
	})
	if fitting < 500 {
		t.Errorf("only met %d roundings with one other multiple", fitting)
	}
}

func TestPromise194ManyTurned(t *testing.T) {
	eachControlMany(t, func(c controlling, many int) {
		if most := 1 << c.uneven(slices.Concat(c.table...)); many > most || c.of(turnedBy(t, c.table)).many() != many {
			t.Fatalf("ControlMany of %v is %d, and turned %d; there are no more than %d", c, many, c.turned().many(), most)
		}
	})
}

// TestPromise195FarTurned also takes all small tables of halves of a base, of which many have several nearest roundings.
func TestPromise195FarTurned(t *testing.T) {
	other := 0
	expect := func(c controlling, x [][]int) {
		flipped := c.of(turnedBy(t, c.table))
		y := flipped.expectRounded(t)
		if flipped.far(y) != c.far(x) {
			t.Fatalf("ControlRound of %v is %v, and turned %v", c, x, y)
		}
		if !sameRows(turned(y), x) {
			other++
		}
	}
	eachRounded(t, expect)
	for _, s := range []size{{2, 2}, {2, 3}, {4, 2}, {3, 3}} {
		everySmallTable(s, 1, func(table [][]int) {
			c := controlling{changed(table, func(v int) int { return 7 * v }), 14}
			expect(c, c.expectRounded(t))
		})
	}
	if other < 50 {
		t.Errorf("only %d turned tables have another rounding", other)
	}
}

// subsets returns how many subsets with k elements a set of n has.
func subsets(n int, k int) int {
	if k < 0 || k > n {
		return 0
	}
	if k == 0 {
		return 1
	}
	return subsets(n-1, k-1) + subsets(n-1, k)
}

// TestPromise196ManyOfOneRow also takes one column.
func TestPromise196ManyOfOneRow(t *testing.T) {
	l := &lots{state: 86}
	met, even := 0, 0
	for _, base := range everyBase() {
		for columns := 1; columns <= impl.SideMax; columns++ {
			tables := controlTables(l, size{1, columns}, base)
			for range 10 {
				tables = append(tables, evened(l.drawn(size{1, columns}, 60), base), l.drawn(size{1, columns}, impl.CellMax))
			}
			for _, table := range tables {
				c := controlling{table, base}
				uneven, rest := c.uneven(table[0]), 0
				for _, v := range table[0] {
					rest += v % base
				}
				want := subsets(uneven, rest/base)
				if rest%base != 0 {
					want += subsets(uneven, rest/base+1)
				} else if rest > 0 {
					even++
				}
				met++
				if many := c.many(); many != want || c.turned().many() != want {
					t.Fatalf("ControlMany of %v is %d, not %d, and turned %d", c, many, want, c.turned().many())
				}
			}
		}
	}
	if met < 2500 || even < 700 {
		t.Errorf("only met %d rows, %d of them with remainders that add up to a multiple", met, even)
	}
}

func TestPromise197FarExchanged(t *testing.T) {
	equal, tables := 0, 0
	for _, c := range someRows() {
		far := impl.ControlFar(c.a, c.b)
		if far == -1 {
			t.Fatalf("ControlFar of %v is -1", c)
		}
		if same := sameRows(c.a, c.b); impl.ControlFar(c.b, c.a) != far || same != (far == 0) {
			t.Fatalf("ControlFar of %v is %d, and exchanged %d", c, far, impl.ControlFar(c.b, c.a))
		} else if same {
			equal++
		}
		if a, b := impl.TableTotal(c.a), impl.TableTotal(c.b); a >= 0 && b >= 0 {
			tables++
			if far < a-b || far < b-a {
				t.Fatalf("ControlFar of %v is %d, and their totals are %d and %d", c, far, a, b)
			}
		}
	}
	if equal < 500 || tables < 5000 {
		t.Errorf("only met %d equal rows, and %d tables", equal, tables)
	}
}

func TestPromise198ManyMoved(t *testing.T) {
	eachControlMany(t, func(c controlling, many int) {
		if got := c.of(lastOnTop(c.table)).many(); got != many {
			t.Fatalf("ControlMany of %v is %d, and with the last row on top %d", c, many, got)
		}
	})
}

func TestPromise199ManyBaseMore(t *testing.T) {
	met := 0
	eachControlMany(t, func(c controlling, many int) {
		eachPlace(c.table, func(row int, column int) {
			more := withCell(c.table, row, column, c.table[row][column]+c.base)
			if !impl.TableValid(more) {
				return
			}
			met++
			if got := c.of(more).many(); got != many {
				t.Fatalf("ControlMany of %v is %d, and with the base more at %d, %d it is %d", c, many, row, column, got)
			}
		})
	})
	if met < 7000 {
		t.Errorf("only met %d cells with the base more", met)
	}
}

func TestPromise200ManyOfOtherRemainders(t *testing.T) {
	met, other := 0, 0
	eachControlMany(t, func(c controlling, many int) {
		table := changed(c.table, func(v int) int {
			if v%c.base == 0 {
				return v
			}
			return impl.RoundDown(v, c.base) + c.base - v%c.base
		})
		if !impl.TableValid(table) {
			return
		}
		met++
		if !sameRows(table, c.table) {
			other++
		}
		if got := c.of(table).many(); got != many {
			t.Fatalf("ControlMany of %v is %d, and of %v %d", c, many, table, got)
		}
	})
	if met < 1500 || other < 1000 {
		t.Errorf("only met %d tables, %d of them others", met, other)
	}
}

func TestPromise201FarByOne(t *testing.T) {
	met := 0
	for i, c := range someRows() {
		if i%3 != 0 || len(c.a) > 100 || len(c.a) > 0 && len(c.a[0]) > 100 {
			continue
		}
		far := impl.ControlFar(c.a, c.b)
		eachPlace(c.a, func(row int, column int) {
			met++
			more := withCell(c.a, row, column, c.a[row][column]+1)
			step, rest := impl.ControlFar(c.a, more), impl.ControlFar(more, c.b)
			if far < 0 || far > step+rest || far-rest != 1 && rest-far != 1 {
				t.Fatalf("ControlFar of %v is %d, and with 1 more at %d, %d it is %d, %d from the first ones", c, far, row, column, rest, step)
			}
		})
	}
	if met < 20000 {
		t.Errorf("only met %d cells", met)
	}
}

func TestPromise202NoneIsNearer(t *testing.T) {
	met, farther := 0, 0
	eachControlFit(t, func(c controlling, x [][]int) {
		if !c.small() {
			return
		}
		met++
		far, least := c.far(x), c.far(c.expectRounded(t))
		if far < least || c.many() < 1 {
			t.Fatalf("%v is a rounding of %v at %d, ControlRound finds one at %d, and ControlMany %d", x, c, far, least, c.many())
		}
		if far > least {
			farther++
		}
	})
	if met < 8000 || farther < 3000 {
		t.Errorf("only met %d roundings, %d of them farther", met, farther)
	}
}

func TestPromise203ZerosAndMultiplesStay(t *testing.T) {
	zeros, rows := 0, 0
	eachRounded(t, func(c controlling, x [][]int) {
		for row, list := range c.table {
			if c.uneven(list) == 0 {
				rows++
				if !slices.Equal(x[row], list) {
					t.Fatalf("ControlRound of %v is %v", c, x)
				}
			}
			for column, v := range list {
				if v == 0 {
					zeros++
					if x[row][column] != 0 {
						t.Fatalf("ControlRound of %v is %v", c, x)
					}
				}
			}
		}
	})
	if zeros < 1000 || rows < 1000 {
		t.Errorf("only met %d zeros and %d rows of multiples", zeros, rows)
	}
}

// TestControlsCounted finds all roundings anew: the promises alone would also hold for other results.
func TestControlsCounted(t *testing.T) {
	for _, c := range smallControls() {
		c.expectControl(t)
	}
}

// TestControlsOfAllBases takes all numbers of one cell, and tables drawn by lot of all sizes.
func TestControlsOfAllBases(t *testing.T) {
	l := &lots{state: 87}
	for _, base := range everyBase() {
		for v := range impl.CellMax + 1 {
			controlling{[][]int{{v}}, base}.expectControl(t)
		}
		for _, s := range everySize() {
			for _, most := range []int{base, 2 * base, impl.CellMax, impl.CellMax} {
				if c := (controlling{l.drawn(s, most), base}); c.small() {
					c.expectControl(t)
				}
			}
		}
	}
}

// TestSmallControls takes all small tables of a size with numbers up to a greatest one for a base, or each some of them.
func TestSmallControls(t *testing.T) {
	for _, small := range []struct {
		size
		base, most, some int
	}{
		{size{1, 2}, 2, 9, 1}, {size{2, 1}, 2, 9, 1}, {size{1, 2}, 5, 16, 1}, {size{2, 1}, 5, 16, 1}, {size{1, 2}, 20, 45, 1}, {size{2, 1}, 20, 45, 1},
		{size{1, 3}, 3, 7, 1}, {size{3, 1}, 3, 7, 1}, {size{1, 3}, 6, 12, 1}, {size{3, 1}, 6, 12, 1}, {size{1, 4}, 4, 5, 1}, {size{4, 1}, 4, 5, 1},
		{size{2, 2}, 2, 5, 1}, {size{2, 2}, 3, 6, 1}, {size{2, 2}, 4, 6, 1}, {size{2, 2}, 5, 5, 1}, {size{2, 2}, 6, 6, 1}, {size{2, 2}, 13, 14, 7},
		{size{2, 3}, 2, 2, 1}, {size{3, 2}, 2, 2, 1}, {size{2, 3}, 3, 3, 1}, {size{3, 2}, 3, 3, 1}, {size{2, 3}, 5, 5, 11}, {size{3, 2}, 5, 5, 11},
		{size{2, 4}, 2, 1, 1}, {size{4, 2}, 2, 1, 1}, {size{2, 4}, 3, 2, 3}, {size{4, 2}, 3, 2, 3}, {size{2, 4}, 4, 3, 31}, {size{4, 2}, 4, 3, 31},
		{size{3, 3}, 2, 1, 1}, {size{3, 3}, 2, 2, 5}, {size{3, 3}, 3, 2, 5}, {size{3, 3}, 4, 3, 101}, {size{3, 3}, 5, 4, 1009},
	} {
		n := 0
		everySmallTable(small.size, small.most, func(table [][]int) {
			if n++; n%small.some == 0 {
				controlling{table, small.base}.expectControl(t)
			}
		})
	}
}

// TestControlFitsCounted holds ControlFits against the conditions, with rows that break all of them and just some.
func TestControlFitsCounted(t *testing.T) {
	l := &lots{state: 88}
	for _, c := range sampleControls() {
		for _, x := range c.candidates(l) {
			if want := c.ownFits(x); c.fits(x) != want {
				t.Fatalf("ControlFits of %v and %v is %v", c, x, !want)
			}
		}
	}
}

// TestControlFitsOfAllMultiples takes all choices of multiples near the cells, those a whole base away among them, for tables of few cells.
func TestControlFitsOfAllMultiples(t *testing.T) {
	for _, table := range [][][]int{{{7}}, {{0, 5}}, {{3, 10, 99}}, {{1}, {4}, {6}}, {{2, 3}, {5, 0}}, {{98, 99}, {1, 2}}, {{4, 4}, {4, 4}}} {
		for _, base := range []int{2, 3, 5, 8, 10, impl.BaseMax} {
			c := controlling{table, base}
			everySmallTable(sizeOf(table), 4, func(choice [][]int) {
				x := filled(sizeOf(table), func(row int, column int) int {
					return table[row][column] - table[row][column]%base + (choice[row][column]-1)*base
				})
				if want := c.ownFits(x); c.fits(x) != want {
					t.Fatalf("ControlFits of %v and %v is %v", c, x, !want)
				}
			})
		}
	}
}

func TestControlRoundByHand(t *testing.T) {
	for _, c := range []struct {
		controlling
		want      [][]int
		far, many int
	}{
		{controlling{[][]int{{0}}, 2}, [][]int{{0}}, 0, 1},
		{controlling{[][]int{{1}}, 2}, [][]int{{0}}, 1, 2},
		{controlling{[][]int{{99}}, 2}, [][]int{{98}}, 1, 2},
		{controlling{[][]int{{99}}, 3}, [][]int{{99}}, 0, 1},
		{controlling{[][]int{{98}}, 3}, [][]int{{99}}, 1, 2},
		{controlling{[][]int{{9}}, 20}, [][]int{{0}}, 9, 2},
		{controlling{[][]int{{10}}, 20}, [][]int{{0}}, 10, 2},
		{controlling{[][]int{{11}}, 20}, [][]int{{20}}, 9, 2},
		{controlling{[][]int{{99}}, 20}, [][]int{{100}}, 1, 2},
		// The sum of the row is a multiple: just one cell goes up, the last one of those that are as near.
		{controlling{[][]int{{1, 1, 1}}, 3}, [][]int{{0, 0, 3}}, 4, 3},
		{controlling{[][]int{{1}, {1}, {1}}, 3}, [][]int{{0}, {0}, {3}}, 4, 3},
		{controlling{[][]int{{2, 2, 2, 2}}, 4}, [][]int{{0, 0, 4, 4}}, 8, 6},
		{controlling{[][]int{{1, 3, 2, 2}}, 4}, [][]int{{0, 4, 0, 4}}, 6, 6},
		{controlling{[][]int{{0, 4, 8, 96}}, 4}, [][]int{{0, 4, 8, 96}}, 0, 1},
		{controlling{[][]int{{0, 4, 9, 96}}, 4}, [][]int{{0, 4, 8, 96}}, 1, 2},
		{controlling{[][]int{{0, 4, 11, 96}}, 4}, [][]int{{0, 4, 12, 96}}, 1, 2},
		// All cells are nearer to the greater multiple, but at most two of them can go up.
		{controlling{[][]int{{2, 2, 2}}, 3}, [][]int{{0, 3, 3}}, 4, 3},
		{controlling{[][]int{{3, 3, 3, 3}}, 5}, [][]int{{0, 5, 5, 5}}, 9, 10},
		// A base greater than all cells.
		{controlling{[][]int{{4, 4, 4}}, 20}, [][]int{{0, 0, 0}}, 12, 4},
		{controlling{[][]int{{9, 9, 9}}, 20}, [][]int{{0, 0, 20}}, 29, 6},
		// One cell of each row and of each column goes up, or two of the diagonal.
		{controlling{[][]int{{1, 1}, {1, 1}}, 2}, [][]int{{0, 2}, {2, 0}}, 4, 2},
		{controlling{[][]int{{1, 1}, {1, 0}}, 3}, [][]int{{0, 0}, {3, 0}}, 4, 3},
		{controlling{[][]int{{1, 2}, {3, 4}}, 5}, [][]int{{0, 0}, {5, 5}}, 6, 4},
		{controlling{[][]int{{1, 2}, {2, 1}}, 3}, [][]int{{0, 3}, {3, 0}}, 4, 2},
		{controlling{[][]int{{2, 1}, {1, 2}}, 3}, [][]int{{3, 0}, {0, 3}}, 4, 2},
		{controlling{[][]int{{1, 1, 1}, {1, 1, 1}, {1, 1, 1}}, 3}, [][]int{{0, 0, 3}, {0, 3, 0}, {3, 0, 0}}, 12, 6},
		{controlling{[][]int{{5, 0, 10}, {20, 95, 15}, {0, 0, 50}}, 5}, [][]int{{5, 0, 10}, {20, 95, 15}, {0, 0, 50}}, 0, 1},
		{controlling{[][]int{{5, 0, 10}, {20, 97, 15}, {0, 0, 50}}, 5}, [][]int{{5, 0, 10}, {20, 95, 15}, {0, 0, 50}}, 2, 2},
		{controlling{[][]int{{5, 0, 10}, {20, 98, 15}, {0, 0, 50}}, 5}, [][]int{{5, 0, 10}, {20, 100, 15}, {0, 0, 50}}, 2, 2},
		{controlling{uniform(size{3, 3}, 0), 20}, uniform(size{3, 3}, 0), 0, 1},
		{controlling{uniform(size{2, 4}, impl.CellMax), 11}, uniform(size{2, 4}, impl.CellMax), 0, 1},
	} {
		x, ok := c.rounded()
		if !ok || !sameRows(x, c.want) || c.controlling.far(x) != c.far || c.controlling.many() != c.many {
			t.Errorf("ControlRound of %v is %v, %v, at %d, and ControlMany %d", c.controlling, x, ok, c.controlling.far(x), c.controlling.many())
		}
	}
}

func TestControlFitsByHand(t *testing.T) {
	for _, c := range []struct {
		controlling
		fits, not [][][]int
	}{
		{controlling{[][]int{{7}}, 5}, [][][]int{{{5}}, {{10}}}, [][][]int{{{0}}, {{15}}, {{7}}, {{6}}, {{9}}, {{-5}}, {{5, 0}}, {{5}, {0}}}},
		{controlling{[][]int{{10}}, 5}, [][][]int{{{10}}}, [][][]int{{{5}}, {{15}}, {{0}}, {{9}}, {{11}}}},
		{controlling{[][]int{{0}}, 2}, [][][]int{{{0}}}, [][][]int{{{2}}, {{-2}}, {{1}}, {{-1}}}},
		{controlling{[][]int{{99}}, 20}, [][][]int{{{80}}, {{100}}}, [][][]int{{{60}}, {{120}}, {{99}}}},
		{controlling{[][]int{{1, 1}, {1, 0}}, 3}, [][][]int{{{3, 0}, {0, 0}}, {{0, 3}, {0, 0}}, {{0, 0}, {3, 0}}},
			[][][]int{{{0, 0}, {0, 0}}, {{3, 3}, {0, 0}}, {{3, 0}, {3, 0}}, {{0, 3}, {3, 0}}, {{3, 3}, {3, 0}}, {{0, 0}, {0, 3}}}},
		// Each row and each column may be 0, but the total is 4.
		{controlling{[][]int{{1, 1}, {1, 1}}, 4}, [][][]int{{{4, 0}, {0, 0}}, {{0, 0}, {0, 4}}}, [][][]int{uniform(size{2, 2}, 0), {{4, 0}, {0, 4}}, {{4, 4}, {0, 0}}, {{1, 1}, {1, 1}}}},
		// The rows are near, and a column is not; and the other way round.
		{controlling{[][]int{{1, 1}, {1, 1}}, 2}, [][][]int{{{2, 0}, {0, 2}}, {{0, 2}, {2, 0}}}, [][][]int{{{2, 0}, {2, 0}}, {{0, 2}, {0, 2}}, {{2, 2}, {0, 0}}, {{0, 0}, {2, 2}}}},
		// More than 9 cells.
		{controlling{uniform(size{4, 4}, 1), 4}, [][][]int{
			{{4, 0, 0, 0}, {0, 4, 0, 0}, {0, 0, 4, 0}, {0, 0, 0, 4}}, {{0, 0, 4, 0}, {4, 0, 0, 0}, {0, 0, 0, 4}, {0, 4, 0, 0}},
		}, [][][]int{uniform(size{4, 4}, 0), uniform(size{4, 4}, 4), {{4, 0, 0, 0}, {0, 4, 0, 0}, {0, 0, 4, 0}, {0, 0, 4, 0}}}},
		{controlling{uniform(size{4, 4}, impl.CellMax), 20}, [][][]int{uniform(size{4, 4}, 100)}, [][][]int{uniform(size{4, 4}, 80)}},
		{controlling{uniform(size{4, 4}, impl.CellMax), 3}, [][][]int{uniform(size{4, 4}, impl.CellMax)}, [][][]int{withCell(uniform(size{4, 4}, impl.CellMax), 3, 3, 96)}},
	} {
		for _, x := range c.fits {
			if !c.controlling.fits(x) {
				t.Errorf("ControlFits of %v and %v does not hold", c.controlling, x)
			}
		}
		c.expectNoFit(t, c.not...)
	}
}

func TestControlFarByHand(t *testing.T) {
	for _, c := range []struct {
		comparing
		want int
	}{
		{comparing{nil, nil}, 0},
		{comparing{nil, [][]int{}}, 0},
		{comparing{[][]int{nil}, [][]int{{}}}, 0},
		{comparing{[][]int{{}, {}}, [][]int{nil, {}}}, 0},
		{comparing{nil, [][]int{{}}}, -1},
		{comparing{[][]int{{}}, [][]int{{0}}}, -1},
		{comparing{[][]int{{1, 5}}, [][]int{{3, 4}}}, 3},
		{comparing{[][]int{{1, 5}}, [][]int{{1}, {5}}}, -1},
		{comparing{[][]int{{1, 5}}, [][]int{{1, 5, 0}}}, -1},
		{comparing{[][]int{{1, 5}}, [][]int{{1, 5}, {}}}, -1},
		{comparing{[][]int{{1, 2}, {3, 4}}, [][]int{{4, 3}, {2, 1}}}, 8},
		{comparing{[][]int{{1, 2}, {3}}, [][]int{{0, 0}, {10}}}, 10},
		{comparing{[][]int{{1, 2}, {3}}, [][]int{{1}, {2, 3}}}, -1},
		{comparing{[][]int{{-5, 100}, {1000, -7}}, [][]int{{5, -100}, {-1000, -7}}}, 2210},
		{comparing{uniform(size{5, 6}, 2), uniform(size{5, 6}, -1)}, 90},
		{comparing{[][]int{{math.MaxInt}}, [][]int{{0}}}, math.MaxInt},
		{comparing{[][]int{{math.MaxInt}}, [][]int{{1}}}, math.MaxInt - 1},
		{comparing{[][]int{{math.MinInt}}, [][]int{{-1}}}, math.MaxInt},
		{comparing{[][]int{{math.MinInt, 3}}, [][]int{{-2, 4}}}, math.MaxInt},
		{comparing{[][]int{{math.MinInt}}, [][]int{{math.MinInt}}}, 0},
		// The sums of these are greater than the greatest integer.
		{comparing{[][]int{{math.MinInt}}, [][]int{{0}}}, math.MaxInt},
		{comparing{[][]int{{math.MinInt}}, [][]int{{math.MaxInt}}}, math.MaxInt},
		{comparing{[][]int{{math.MaxInt, 1}}, [][]int{{0, 0}}}, math.MaxInt},
		{comparing{[][]int{{math.MinInt}, {math.MinInt}}, [][]int{{0}, {0}}}, math.MaxInt},
		{comparing{[][]int{{math.MaxInt, math.MaxInt, 2}}, [][]int{{0, 0, 0}}}, math.MaxInt},
		// The sizes are looked at before the numbers.
		{comparing{[][]int{{math.MinInt}, {0}}, [][]int{{math.MaxInt}, {0, 0}}}, -1},
	} {
		if far, back := impl.ControlFar(c.a, c.b), impl.ControlFar(c.b, c.a); far != c.want || back != c.want {
			t.Errorf("ControlFar of %v is %d, and exchanged %d", c.comparing, far, back)
		}
	}
}

func TestControlFarCounted(t *testing.T) {
	rows := someRows()
	for i, c := range rows {
		for _, b := range [][][]int{c.a, c.b, rows[(i+1)%len(rows)].b, rows[(i+17)%len(rows)].a} {
			if far := impl.ControlFar(c.a, b); far != ownFar(c.a, b) {
				t.Fatalf("ControlFar of %v and %v is %d, not %d", c.a, b, far, ownFar(c.a, b))
			}
		}
	}
}

// TestControlFarOfExtremes has sums about the greatest integer, and much greater ones.
func TestControlFarOfExtremes(t *testing.T) {
	extremes := extremeRows()
	met, most := 0, 0
	for _, a := range extremes {
		for _, b := range extremes {
			want := ownFar(a, b)
			if far := impl.ControlFar(a, b); far != want {
				t.Fatalf("ControlFar of %v and %v is %d, not %d", a, b, far, want)
			}
			if want >= 0 {
				met++
			}
			if want == math.MaxInt {
				most++
			}
		}
	}
	if met < 10000 || most < 5000 || met-most < 1000 {
		t.Errorf("only met %d pairs of equal sizes, %d of them with too great a sum", met, most)
	}
}

// TestControlFarOfLengths has rows of all lengths, of which each number counts.
func TestControlFarOfLengths(t *testing.T) {
	lists := lengthLists[int]()
	for i, a := range lists {
		ones := refilled(a, func(int) int { return 1 })
		if far, want := impl.ControlFar(ones, a), len(slices.Concat(a...)); far != want {
			t.Fatalf("ControlFar of ones and %v is %d", a, far)
		}
		for _, k := range []int{i + 1, i + 6, i + 36, i * 7, i * 11} {
			if b := lists[k%len(lists)]; impl.ControlFar(a, b) != ownFar(a, b) {
				t.Fatalf("ControlFar of %v and %v is %d", a, b, impl.ControlFar(a, b))
			}
		}
	}
}

// TestControlOfManyCells has tables of more than 9 cells, of which roundings are told but not found.
func TestControlOfManyCells(t *testing.T) {
	for _, s := range everySize() {
		for _, base := range everyBase() {
			for _, table := range [][][]int{uniform(s, 0), uniform(s, 2*base), uniform(s, 1), numbered(s), uniform(s, impl.CellMax)} {
				c := controlling{table, base}
				if c.small() {
					c.expectRounded(t)
					continue
				}
				c.expectNotRounded(t)
				if x := likeTable(table, base); c.fits(x) != c.ownFits(x) {
					t.Errorf("ControlFits of %v and %v is %v", c, x, c.fits(x))
				}
			}
		}
	}
}

func TestControlOfBadBases(t *testing.T) {
	for i, c := range sampleControls() {
		if i%5 != 0 {
			continue
		}
		zeros := uniform(sizeOf(c.table), 0)
		best := likeTable(c.table, c.base)
		for _, base := range append(badBases(), -3, 22, 25) {
			bad := controlling{c.table, base}
			bad.expectNotRounded(t)
			bad.expectNoFit(t, c.table, zeros, best)
			bad.of(zeros).expectNotRounded(t)
			bad.of(zeros).expectNoFit(t, zeros)
		}
	}
}

// TestControlOfInvalidTables has rows that would be a rounding if the lists were a table.
func TestControlOfInvalidTables(t *testing.T) {
	for _, table := range invalidTables() {
		for _, base := range []int{2, 3, 10, impl.BaseMax} {
			c := controlling{table, base}
			c.expectNotRounded(t)
			c.expectNoFit(t, table, copied(table), likeTable(table, base), refilled(table, func(v int) int { return v - v%base }), nil, [][]int{{0}}, uniform(size{2, 2}, 0))
		}
		for _, base := range []int{-1, 0, 1, impl.BaseMax + 1, math.MinInt, math.MaxInt} {
			c := controlling{table, base}
			c.expectNotRounded(t)
			c.expectNoFit(t, table, likeTable(table, 5), nil)
		}
	}
}

// TestControlFitsOfOtherSizes has rows of all lengths, of which only those of the size of a table of zeros are a rounding of it.
func TestControlFitsOfOtherSizes(t *testing.T) {
	for _, s := range everySize() {
		c := controlling{uniform(s, 0), 5}
		for _, lists := range lengthLists[int]() {
			if want := rightLengths(lists) && sizeOf(lists) == s; c.fits(lists) != want {
				t.Fatalf("ControlFits of %v and %v is %v", c, lists, !want)
			}
		}
		c.expectNoFit(t, make([][]int, 5000), [][]int{make([]int, 5000)}, uniform(size{5000, s.columns}, 0), uniform(size{s.rows, 5000}, 0))
		multiples := c.of(changed(numbered(s), func(v int) int { return 5 * v }))
		if !multiples.fits(copied(multiples.table)) {
			t.Fatalf("ControlFits of %v and itself does not hold", multiples)
		}
		for row := range s.rows {
			part := multiples.table[row]
			multiples.expectNoFit(t, slices.Delete(copied(multiples.table), row, row+1), append(copied(multiples.table), part),
				withRow(multiples.table, row, part[:s.columns-1]), withRow(multiples.table, row, append(slices.Clone(part), 0)), withRow(multiples.table, row, nil))
		}
		if s.rows != s.columns {
			multiples.expectNoFit(t, turned(multiples.table))
		}
	}
}

// TestControlFitsOfExtremes has the least and the greatest integers in all places, and numbers that are a rounding if sums or differences overflow, or if only the last bits count.
func TestControlFitsOfExtremes(t *testing.T) {
	bad := []int{math.MinInt, math.MinInt + 1, math.MinInt + 5, math.MinInt / 2, math.MaxInt, math.MaxInt - 1, math.MaxInt - 5, 1 << 8, 1 << 16, 1 << 32, 1<<32 + 10, -1 << 32, -10, -5, -2, 1000, 100000}
	for i, c := range sampleControls() {
		if i%5 != 0 {
			continue
		}
		x := likeTable(c.table, c.base)
		if c.small() {
			x = c.expectRounded(t)
		}
		s := sizeOf(x)
		eachPlace(x, func(row int, column int) {
			for _, v := range bad {
				c.expectNoFit(t, withCell(x, row, column, v))
			}
		})
		// Twice the least integer is 0, and so is four times half of it.
		c.expectNoFit(t, changed(x, func(v int) int { return v + math.MinInt }), changed(x, func(v int) int { return v + math.MinInt/2 }), changed(x, func(v int) int { return v + 1<<32 }))
		for _, by := range []int{math.MinInt, math.MaxInt, 1 << 62, c.base, 1000 * c.base} {
			row, column := i%s.rows, i%s.columns
			if s.columns > 1 {
				next := withCell(x, row, column, x[row][column]+by)
				c.expectNoFit(t, withCell(next, row, (column+1)%s.columns, x[row][(column+1)%s.columns]-by-by-by))
			}
			if s.rows > 1 && s.columns > 1 {
				c.expectNoFit(t, ring{[]int{0, 1}, []int{0, 1}}.shifted(x, 4*by+8*c.base))
			}
		}
	}
}

// TestControlArgumentsStay looks at the room behind the lists, too: a function must not write there either.
func TestControlArgumentsStay(t *testing.T) {
	l := &lots{state: 89}
	controls := sampleControls()
	for _, call := range controlCalls() {
		for i, c := range controls {
			if i%3 != 0 {
				continue
			}
			candidates := c.candidates(l)
			for _, x := range [][][]int{candidates[0], candidates[l.below(len(candidates))], numbered(everySize()[i%16])} {
				pair := comparing{c.table, x}
				pair.expectStays(t, func(used comparing) { call(used, c.base) })
			}
			expectTableStays(t, c.table, nil, func(table [][]int, _ [][]bool) { call(comparing{table, table}, c.base) })
		}
		for i, bad := range invalidTables() {
			if i%5 == 0 {
				for _, pair := range []comparing{{bad, bad}, {bad, numbered(size{2, 3})}, {numbered(size{2, 3}), bad}} {
					pair.expectStays(t, func(used comparing) { call(used, 5) })
				}
			}
		}
	}
}

// TestControlResultsAreNew has roundings that are the table, and others.
func TestControlResultsAreNew(t *testing.T) {
	for _, c := range smallControls() {
		for _, mark := range []int{-7, 0} {
			expectNewRows(t, c.table, func(table [][]int) ([][]int, bool) { return impl.ControlRound(table, c.base) }, mark)
		}
	}
}

// TestControlsKeepNothing overwrites the arguments and the results of calls and expects that later calls with equal arguments tell the same.
func TestControlsKeepNothing(t *testing.T) {
	l := &lots{state: 90}
	for _, c := range smallControls() {
		used := c.of(copied(c.table))
		x, many, want := used.expectRounded(t), used.many(), copied(used.expectRounded(t))
		fits, far := used.fits(x), used.far(x)
		eachPlace(x, func(row int, column int) {
			x[row][column] = 55
			used.table[row][column] = (used.table[row][column] + 1 + l.below(impl.CellMax)) % (impl.CellMax + 1)
		})
		used.expectControl(t)
		if used.fits(x) != used.ownFits(x) || used.far(x) != ownFar(used.table, x) {
			t.Fatalf("ControlFits or ControlFar of %v and %v is wrong", used, x)
		}
		if again := c.expectRounded(t); !sameRows(again, want) || c.many() != many || c.fits(want) != fits || c.far(want) != far {
			t.Fatalf("ControlRound of %v has changed from %v to %v", c, want, again)
		}
	}
}

// TestControlsBehindEachOther makes each call behind each other one, those that are refused among them.
func TestControlsBehindEachOther(t *testing.T) {
	calls := askedControls(101)
	if len(calls) < 100 {
		t.Fatalf("only %d calls", len(calls))
	}
	for _, first := range calls {
		for _, second := range calls {
			for _, call := range []controlAsked{first, second} {
				if got := call.ask(); got != call.want {
					t.Fatalf("a call returns %s, not %s", got, call.want)
				}
			}
		}
	}
}

// TestControlsAtTheSameTime makes different calls at the same time, as something kept by one could be met by another one.
func TestControlsAtTheSameTime(t *testing.T) {
	calls := askedControls(13)
	const workers = 8
	wrong := make([]int, workers)
	var group sync.WaitGroup
	for worker := range workers {
		group.Go(func() {
			l := &lots{state: uint64(worker)}
			for range 5000 {
				if call := calls[l.below(len(calls))]; call.ask() != call.want {
					wrong[worker]++
				}
			}
		})
	}
	group.Wait()
	if total(wrong) != 0 {
		t.Errorf("%v calls at the same time are wrong", wrong)
	}
}
