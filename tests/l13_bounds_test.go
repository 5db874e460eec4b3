package tests

import (
	"math"
	"slices"
	"testing"

	"loop.example/disclosurecontrol/impl"
)

// TestBoundHelpers keeps the tests below from passing because they never meet what they are about.
func TestBoundHelpers(t *testing.T) {
	met := map[string]int{}
	count := func(name string, is bool) {
		if is {
			met[name]++
		}
	}
	for _, h := range sampleHidings() {
		s, n, cells := sizeOf(h.table), manySet(h.mask), slices.Concat(h.table...)
		count("no hidden cell", n == 0)
		count("all hidden", n == s.rows*s.columns)
		count("one hidden cell", n == 1)
		count("one row", s.rows == 1 && s.columns == impl.SideMax && n > 1)
		count("one column", s.rows == impl.SideMax && s.columns == 1 && n > 1)
		count("all sides", s == size{impl.SideMax, impl.SideMax} && n == 16)
		count("zeros", slices.Max(cells) == 0)
		count("all CellMax", slices.Min(cells) == impl.CellMax)
		count("0 and CellMax", slices.Min(cells) == 0 && slices.Max(cells) == impl.CellMax)
		rows, columns := hiddenRows(h.mask), hiddenRows(turned(h.mask))
		count("rectangle", n == 4 && sameCounts(rows, 2, 2) && sameCounts(columns, 2, 2))
		count("ring of 6", n == 6 && sameCounts(rows, 3, 2) && sameCounts(columns, 3, 2))
		count("ring of 8", n == 8 && sameCounts(rows, 4, 2) && sameCounts(columns, 4, 2))
		eachPlace(h.table, func(row int, column int) {
			inRow, inColumn := hiddenIn(h.mask[row], column), hiddenIn(turned(h.mask)[column], row)
			count("alone in its row", h.mask[row][column] && inRow == 0 && inColumn > 0)
			count("alone in its column", h.mask[row][column] && inRow > 0 && inColumn == 0)
			count("alone in both", h.mask[row][column] && n > 1 && inRow == 0 && inColumn == 0)
			count("two of a row", h.mask[row][column] && inRow == 1 && n == 2)
		})
	}
	if len(met) != 16 || len(sampleHidings()) < 2000 {
		t.Errorf("only met %v, and %d tables with masks", met, len(sampleHidings()))
	}
}

// TestOwnBounds holds the two ways of the helpers to tell the bounds against each other.
func TestOwnBounds(t *testing.T) {
	n := 0
	eachSmallHiding(func(h hiding) {
		n++
		if n%10 == 0 && !sameBounds(h.searched(), h.cuts()) {
			t.Fatalf("the bounds of %v are %v by a search and %v by sums", h, h.searched(), h.cuts())
		}
	})
	if n < 150000 {
		t.Errorf("only %d small tables with masks", n)
	}
}

func TestPromise118FitTables(t *testing.T) {
	eachFit(t, func(h hiding, x [][]int) {
		if sizeOf(x) != sizeOf(h.table) || !slices.Equal(rowTotals(x), rowTotals(h.table)) || !slices.Equal(columnTotals(x), columnTotals(h.table)) {
			t.Fatalf("%v fits %v, and has other sums", x, h)
		}
		eachPlace(x, func(row int, column int) {
			if !h.mask[row][column] && x[row][column] != h.table[row][column] {
				t.Errorf("%v fits %v, and has another number at %d, %d", x, h, row, column)
			}
		})
	})
	for _, h := range sampleHidings() {
		if !h.fits(h.table) || !h.fits(copied(h.table)) {
			t.Errorf("%v does not fit itself", h)
		}
	}
}

func TestPromise119BoundsHold(t *testing.T) {
	eachFit(t, func(h hiding, x [][]int) {
		eachPlace(x, func(row int, column int) {
			if v := x[row][column]; v > h.high(row, column) || v < h.low(row, column) {
				t.Errorf("%v fits %v, and the bounds at %d, %d are %d and %d", x, h, row, column, h.low(row, column), h.high(row, column))
			}
		})
	})
}

func TestPromise120BoundsOfWhatFits(t *testing.T) {
	eachTableThatFits(t, func(h hiding, x [][]int) {
		if got, want := h.of(x).bounds(t), h.bounds(t); !sameBounds(got, want) {
			t.Errorf("%v fits %v, and its bounds are %v, not %v", x, h, got, want)
		}
	})
}

func TestPromise121HighOfAllHidden(t *testing.T) {
	for _, table := range sampleTables() {
		rows, columns := rowTotals(table), columnTotals(table)
		want := filled(sizeOf(table), func(row int, column int) int { return min(rows[row], columns[column]) })
		if got := (hiding{table: table}).all().bounds(t).high; !sameRows(got, want) {
			t.Errorf("BoundHigh of %v with all cells hidden is %v", table, got)
		}
	}
}

func TestPromise122LowOfAllHidden(t *testing.T) {
	for _, table := range sampleTables() {
		rows, columns := rowTotals(table), columnTotals(table)
		want := filled(sizeOf(table), func(row int, column int) int { return max(0, rows[row]+columns[column]-total(rows)) })
		if got := (hiding{table: table}).all().bounds(t).low; !sameRows(got, want) {
			t.Errorf("BoundLow of %v with all cells hidden is %v", table, got)
		}
	}
}

func TestPromise123FurtherHidden(t *testing.T) {
	widened := 0
	for _, h := range sampleHidings() {
		b := h.bounds(t)
		eachPlace(h.mask, func(i int, j int) {
			if h.mask[i][j] {
				return
			}
			more := h.by(withCell(h.mask, i, j, true)).bounds(t)
			eachPlace(h.table, func(row int, column int) {
				if more.high[row][column] < b.high[row][column] || more.low[row][column] > b.low[row][column] {
					t.Errorf("the bounds of %v are %v, and with %d, %d hidden %v", h, b, i, j, more)
				}
			})
			if !sameBounds(more, b) {
				widened++
			}
		})
	}
	if widened < 1000 {
		t.Errorf("a further hidden cell only widens bounds %d times", widened)
	}
}

func TestPromise124BoundsTurned(t *testing.T) {
	for _, h := range sampleHidings() {
		other := hiding{turnedBy(t, h.table), turned(h.mask)}
		if got, want := other.bounds(t), h.bounds(t).turned(); !sameBounds(got, want) {
			t.Errorf("the bounds of %v are %v, and turned %v", h, want.turned(), got)
		}
	}
}

func TestPromise125TwoByTwo(t *testing.T) {
	numbers := []int{0, 1, 2, 7, 50, impl.CellMax - 1, impl.CellMax}
	everySmallTable(size{2, 2}, len(numbers)-1, func(indexes [][]int) {
		table := filled(size{2, 2}, func(row int, column int) int { return numbers[indexes[row][column]] })
		b := hiding{table: table}.all().bounds(t)
		eachPlace(table, func(i int, j int) {
			v, inRow, inColumn, opposite := table[i][j], table[i][1-j], table[1-i][j], table[1-i][1-j]
			if b.high[i][j] != v+min(inRow, inColumn) || b.low[i][j] != v-min(v, opposite) {
				t.Errorf("the bounds at %d, %d of %v are %d and %d", i, j, table, b.low[i][j], b.high[i][j])
			}
		})
	})
}

func TestPromise126OnlyHiddenOne(t *testing.T) {
	met := 0
	for _, h := range sampleHidings() {
		b := h.bounds(t)
		eachPlace(h.table, func(row int, column int) {
			if !h.alone(row, column) {
				return
			}
			met++
			if v := h.table[row][column]; b.high[row][column] != v || b.low[row][column] != v || !h.told(row, column) {
				t.Errorf("the bounds at %d, %d of %v are %d and %d, and BoundTold is %v", row, column, h, b.low[row][column], b.high[row][column], h.told(row, column))
			}
		})
	}
	if met < 3000 {
		t.Errorf("only %d hidden cells are alone", met)
	}
}

func TestPromise127BoundMany(t *testing.T) {
	some, less := 0, 0
	for _, h := range sampleHidings() {
		many, told := h.many(), 0
		eachPlace(h.table, func(row int, column int) {
			if h.told(row, column) {
				told++
			}
		})
		if many != told || many > impl.MaskMany(h.mask) {
			t.Errorf("BoundMany of %v is %d, and BoundTold holds for %d", h, many, told)
		}
		if got := h.none().many(); got != 0 {
			t.Errorf("BoundMany of %v without hidden cells is %d", h.table, got)
		}
		if many > 0 {
			some++
			if many < manySet(h.mask) {
				less++
			}
		}
	}
	if some < 500 || less < 200 {
		t.Errorf("BoundMany is only greater than 0 for %d tables, and less than MaskMany for %d of them", some, less)
	}
}

func TestPromise128Doubled(t *testing.T) {
	met := 0
	for _, h := range sampleHidings() {
		if slices.Max(slices.Concat(h.table...)) > impl.CellMax/2 {
			continue
		}
		met++
		b := h.bounds(t)
		twice := bounds{doubledRows(b.low), doubledRows(b.high)}
		if got := h.of(doubledRows(h.table)).bounds(t); !sameBounds(got, twice) {
			t.Errorf("the bounds of %v are %v, and doubled %v", h, b, got)
		}
	}
	if met < 1000 {
		t.Errorf("only %d tables are doubled", met)
	}
}

func TestPromise129LastRowOnTop(t *testing.T) {
	for _, h := range sampleHidings() {
		b := h.bounds(t)
		want := bounds{lastOnTop(b.low), lastOnTop(b.high)}
		if got := (hiding{lastOnTop(h.table), lastOnTop(h.mask)}).bounds(t); !sameBounds(got, want) {
			t.Errorf("the bounds of %v are %v, and with the last row on top %v", h, b, got)
		}
	}
}

func TestPromise130OneOtherHidden(t *testing.T) {
	met := 0
	for _, h := range sampleHidings() {
		b := h.bounds(t)
		eachPlace(h.table, func(row int, column int) {
			if hiddenIn(h.mask[row], column) != 1 {
				return
			}
			for other, set := range h.mask[row] {
				if set && other != column {
					met++
					if b.high[row][column]+b.low[row][other] != h.table[row][column]+h.table[row][other] {
						t.Errorf("BoundHigh at %d, %d of %v is %d, and BoundLow at %d, %d is %d", row, column, h, b.high[row][column], row, other, b.low[row][other])
					}
				}
			}
		})
	}
	if met < 3000 {
		t.Errorf("only %d cells have one other hidden one", met)
	}
}

func TestPromise131BoundsOfTheOthers(t *testing.T) {
	for _, h := range sampleHidings() {
		b := h.bounds(t)
		eachPlace(h.table, func(row int, column int) {
			whole, low, high := total(h.table[row]), b.low[row][column], b.high[row][column]
			if high > whole-(total(b.low[row])-low) || low < whole-(total(b.high[row])-high) {
				t.Errorf("the bounds at %d, %d of %v are %d and %d, and those of the row %v and %v", row, column, h, low, high, b.low[row], b.high[row])
			}
		})
	}
}

func TestPromise132FitsTurned(t *testing.T) {
	eachTableThatFits(t, func(h hiding, x [][]int) {
		other := hiding{turnedBy(t, h.table), turned(h.mask)}
		if !other.fits(turnedBy(t, x)) {
			t.Errorf("%v fits %v, but not turned", x, h)
		}
		if !h.all().fits(x) || !other.all().fits(turnedBy(t, x)) {
			t.Errorf("%v fits %v, but not with all cells hidden", x, h)
		}
	})
}

func TestPromise133FitsExchanged(t *testing.T) {
	met := 0
	eachTableThatFits(t, func(h hiding, x [][]int) {
		if !h.of(x).fits(h.table) {
			t.Errorf("%v fits %v, but not exchanged", x, h)
		}
		whole := true
		eachPlace(x, func(row int, column int) { whole = whole && (x[row][column]+h.table[row][column])%2 == 0 })
		if !whole || sameRows(x, h.table) {
			return
		}
		met++
		half := filled(sizeOf(x), func(row int, column int) int { return (x[row][column] + h.table[row][column]) / 2 })
		if !h.fits(half) || !h.of(x).fits(half) {
			t.Errorf("%v fits %v, but not %v", x, h, half)
		}
	})
	if met < 300 {
		t.Errorf("only met %d tables halfway", met)
	}
}

func TestPromise134FitsWithoutHidden(t *testing.T) {
	met := 0
	eachFit(t, func(h hiding, x [][]int) {
		if h.none().fits(x) != sameRows(x, h.table) {
			t.Errorf("FitTables of %v without hidden cells and %v is %v", h.table, x, h.none().fits(x))
		}
		if !sameRows(x, h.table) {
			met++
		}
	})
	if met < 3000 {
		t.Errorf("only %d other tables fit with hidden cells", met)
	}
}

func TestPromise135ManyWithoutTold(t *testing.T) {
	for _, h := range sampleHidings() {
		if got := (hiding{turnedBy(t, h.table), turned(h.mask)}).many(); got != h.many() {
			t.Errorf("BoundMany of %v is %d, and turned %d", h, h.many(), got)
		}
		rest := filled(sizeOf(h.mask), func(row int, column int) bool { return h.mask[row][column] && !h.told(row, column) })
		if got := h.by(rest).many(); got != 0 {
			t.Errorf("BoundMany of %v without the cells that are told is %d", h, got)
		}
	}
}

func TestPromise136OpenCellGreater(t *testing.T) {
	met := 0
	for _, h := range sampleHidings() {
		b := h.bounds(t)
		eachPlace(h.table, func(i int, j int) {
			if h.mask[i][j] || h.table[i][j] == impl.CellMax {
				return
			}
			got := h.of(withCell(h.table, i, j, h.table[i][j]+1)).bounds(t)
			eachPlace(h.mask, func(row int, column int) {
				if !h.mask[row][column] {
					return
				}
				met++
				if got.high[row][column] != b.high[row][column] || got.low[row][column] != b.low[row][column] {
					t.Errorf("the bounds of %v are %v, and with %d, %d greater %v", h, b, i, j, got)
				}
			})
		})
	}
	if met < 5000 {
		t.Errorf("only met %d hidden cells beside others", met)
	}
}

func TestPromise137RowsOfZeros(t *testing.T) {
	zeros, others := 0, 0
	for _, h := range sampleHidings() {
		b := h.bounds(t)
		eachPlace(h.table, func(row int, column int) {
			if total(h.table[row]) == 0 {
				zeros++
				if b.high[row][column] != 0 {
					t.Errorf("BoundHigh at %d, %d of %v is %d", row, column, h, b.high[row][column])
				}
			}
			for other, set := range h.mask[row] {
				if set && other != column && h.table[row][other] != 0 {
					return
				}
			}
			others++
			if b.high[row][column] != h.table[row][column] {
				t.Errorf("BoundHigh at %d, %d of %v is %d", row, column, h, b.high[row][column])
			}
		})
	}
	if zeros < 1000 || others < 3000 {
		t.Errorf("only met %d cells of rows of zeros, and %d without other hidden numbers", zeros, others)
	}
}

func TestPromise138HiddenRectangles(t *testing.T) {
	met, just := 0, 0
	for _, h := range sampleHidings() {
		b := h.bounds(t)
		eachPlace(h.table, func(i int, j int) {
			eachPlace(h.table, func(k int, l int) {
				if k == i || l == j || !h.mask[i][j] || !h.mask[i][l] || !h.mask[k][j] || !h.mask[k][l] {
					return
				}
				met++
				least := h.table[i][j] + min(h.table[i][l], h.table[k][j])
				if b.high[i][j] < least {
					t.Errorf("BoundHigh at %d, %d of %v is %d, less than by the rectangle with %d, %d", i, j, h, b.high[i][j], k, l)
				}
				if b.high[i][j] == least {
					just++
				}
			})
		})
	}
	if met < 5000 || just < 1000 {
		t.Errorf("only met %d rectangles, %d of which tell BoundHigh", met, just)
	}
}

// TestBoundsSearched holds small tables with their masks against a search through all tables that fit.
func TestBoundsSearched(t *testing.T) {
	eachSmallHiding(func(h hiding) {
		b := h.searched()
		if got := h.bounds(t); !sameBounds(got, b) {
			t.Fatalf("the bounds of %v are %v, not %v", h, got, b)
		}
		h.expectTold(t, b)
	})
}

// TestBoundsOfGreatTables holds tables with great numbers against the bounds that sums of rows and columns tell.
func TestBoundsOfGreatTables(t *testing.T) {
	l := &lots{state: 42}
	hidings := sampleHidings()
	for range 150 {
		s := size{3 + l.below(2), 3 + l.below(2)}
		hidings = append(hidings, hiding{l.drawn(s, impl.CellMax), l.flags(s, 2)}, hiding{l.drawn(s, 6), l.flags(s, 2)}, hiding{l.drawn(s, impl.CellMax), filled(s, func(int, int) bool { return l.below(4) > 0 })})
	}
	for _, h := range hidings {
		b := h.cuts()
		if got := h.bounds(t); !sameBounds(got, b) {
			t.Fatalf("the bounds of %v are %v, not %v", h, got, b)
		}
		h.expectTold(t, b)
	}
}

// TestBoundsOfLongRings has rings of hidden cells with SideMax rows and columns and shorter ones, in all orders, beside which no other cell is hidden, and of which each second cell has the least number.
func TestBoundsOfLongRings(t *testing.T) {
	l := &lots{state: 43}
	for range 300 {
		s := size{2 + l.below(3), 2 + l.below(3)}
		r := l.ring(s)
		table := l.drawn(s, impl.CellMax)
		up, down := math.MaxInt, math.MaxInt
		for k, row := range r.rows {
			up = min(up, table[row][r.columns[(k+1)%len(r.columns)]])
			down = min(down, table[row][r.columns[k]])
		}
		b := hiding{table, r.mask(s)}.bounds(t)
		wantLow, wantHigh := r.shifted(table, -down), r.shifted(table, up)
		for k, row := range r.rows {
			for n, column := range []int{r.columns[k], r.columns[(k+1)%len(r.columns)]} {
				low, high := wantLow[row][column], wantHigh[row][column]
				if n == 1 {
					low, high = high, low
				}
				if b.low[row][column] != low || b.high[row][column] != high {
					t.Errorf("the bounds at %d, %d of %v with the ring %v are %d and %d, not %d and %d", row, column, table, r, b.low[row][column], b.high[row][column], low, high)
				}
			}
		}
	}
}

// TestFitTablesCounted tells the rows that fit from all others.
func TestFitTablesCounted(t *testing.T) {
	l := &lots{state: 44}
	fitting, others := 0, 0
	for _, h := range sampleHidings() {
		for _, x := range append(h.someFitting(l), h.someNotFitting(l)...) {
			want := h.ownFits(x)
			if h.fits(x) != want {
				t.Errorf("FitTables of %v and %v is %v", h, x, !want)
			}
			if want {
				fitting++
			} else {
				others++
			}
		}
	}
	if fitting < 5000 || others < 5000 {
		t.Errorf("%d fit, and %d do not", fitting, others)
	}
}

// TestFitTablesSearched holds FitTables against a search, with all small second rows.
func TestFitTablesSearched(t *testing.T) {
	for _, small := range []smallTables{{size{1, 1}, 3, 1}, {size{1, 3}, 2, 1}, {size{3, 1}, 2, 1}, {size{2, 2}, 2, 1}, {size{2, 3}, 1, 3}, {size{3, 2}, 1, 3}} {
		masks, n := everyMask(small.size), 0
		everySmallTable(small.size, small.most, func(table [][]int) {
			for _, mask := range masks {
				if n++; n%small.some != 0 {
					continue
				}
				h, found := hiding{table, mask}, [][][]int{}
				h.eachFitting(func(x [][]int) {
					found = append(found, copied(x))
					if !h.fits(x) {
						t.Errorf("%v does not fit %v", x, h)
					}
				})
				everySmallTable(small.size, small.most, func(x [][]int) {
					want := slices.ContainsFunc(found, func(f [][]int) bool { return sameRows(f, x) })
					if h.fits(x) != want {
						t.Errorf("FitTables of %v and %v is %v", h, x, !want)
					}
				})
			}
		})
	}
}

func TestBoundsByHand(t *testing.T) {
	const o, x = false, true
	for _, c := range []struct {
		table     [][]int
		mask      [][]bool
		low, high [][]int
		many      int
	}{
		{[][]int{{5}}, [][]bool{{o}}, [][]int{{5}}, [][]int{{5}}, 0},
		{[][]int{{5}}, [][]bool{{x}}, [][]int{{5}}, [][]int{{5}}, 1},
		{[][]int{{0, 99, 3, 4}}, [][]bool{{x, x, o, x}}, [][]int{{0, 99, 3, 4}}, [][]int{{0, 99, 3, 4}}, 3},
		{[][]int{{0}, {99}, {3}, {4}}, [][]bool{{x}, {x}, {o}, {x}}, [][]int{{0}, {99}, {3}, {4}}, [][]int{{0}, {99}, {3}, {4}}, 3},
		{[][]int{{1, 2}, {3, 4}}, [][]bool{{x, x}, {x, x}}, [][]int{{0, 0}, {1, 3}}, [][]int{{3, 3}, {4, 6}}, 0},
		{[][]int{{1, 2}, {3, 4}}, [][]bool{{x, x}, {x, o}}, [][]int{{1, 2}, {3, 4}}, [][]int{{1, 2}, {3, 4}}, 3},
		{[][]int{{1, 2}, {3, 4}}, [][]bool{{o, x}, {x, o}}, [][]int{{1, 2}, {3, 4}}, [][]int{{1, 2}, {3, 4}}, 2},
		{[][]int{{1, 2}, {3, 4}}, [][]bool{{x, x}, {o, o}}, [][]int{{1, 2}, {3, 4}}, [][]int{{1, 2}, {3, 4}}, 2},
		{[][]int{{0, 2}, {3, 0}}, [][]bool{{x, x}, {x, x}}, [][]int{{0, 0}, {1, 0}}, [][]int{{2, 2}, {3, 2}}, 0},
		{[][]int{{0, 2}, {0, 4}}, [][]bool{{x, x}, {x, x}}, [][]int{{0, 2}, {0, 4}}, [][]int{{0, 2}, {0, 4}}, 4},
		{[][]int{{99, 99}, {99, 99}}, [][]bool{{x, x}, {x, x}}, [][]int{{0, 0}, {0, 0}}, [][]int{{198, 198}, {198, 198}}, 0},
		{[][]int{{1, 2, 9}, {3, 4, 9}, {9, 9, 9}}, [][]bool{{x, x, o}, {x, x, o}, {o, o, x}}, [][]int{{0, 0, 9}, {1, 3, 9}, {9, 9, 9}}, [][]int{{3, 3, 9}, {4, 6, 9}, {9, 9, 9}}, 1},
		// A ring of six cells, in which the first one can be greater by 1 and less by 5.
		{[][]int{{5, 1, 8}, {8, 6, 2}, {3, 8, 7}}, [][]bool{{x, x, o}, {o, x, x}, {x, o, x}}, [][]int{{0, 0, 8}, {8, 1, 1}, {2, 8, 2}}, [][]int{{6, 6, 8}, {8, 7, 7}, {8, 8, 8}}, 0},
	} {
		h := hiding{c.table, c.mask}
		got := h.bounds(t)
		if !sameBounds(got, bounds{c.low, c.high}) || h.many() != c.many {
			t.Errorf("the bounds of %v are %v, and BoundMany is %d", h, got, h.many())
		}
	}
}

// TestBoundsGreaterThanCellMax has tables of SideMax rows and columns in which all of a row fits into one cell.
func TestBoundsGreaterThanCellMax(t *testing.T) {
	h := hiding{table: uniform(size{impl.SideMax, impl.SideMax}, impl.CellMax)}.all()
	b := h.bounds(t)
	if !sameRows(b.low, uniform(size{4, 4}, 0)) || !sameRows(b.high, uniform(size{4, 4}, fitMost)) || h.many() != 0 {
		t.Errorf("the bounds of %v are %v, and BoundMany is %d", h, b, h.many())
	}
	x := filled(size{4, 4}, func(row int, column int) int {
		if row == (column+1)%4 {
			return fitMost
		}
		return 0
	})
	if !h.fits(x) || h.by(withCell(h.mask, 2, 2, false)).fits(x) || impl.TableValid(x) {
		t.Errorf("FitTables of %v and %v is %v", h, x, h.fits(x))
	}
	if other := (ring{[]int{0, 1}, []int{3, 0}}).shifted(x, 1); h.fits(other) {
		t.Errorf("FitTables of %v and %v holds", h, other)
	}
}

// TestBoundsOfOpenCells has cells that are not hidden: both bounds are the number, but it is not hidden in vain.
func TestBoundsOfOpenCells(t *testing.T) {
	for _, h := range sampleHidings() {
		eachPlace(h.table, func(row int, column int) {
			v := h.table[row][column]
			if !h.mask[row][column] && (h.high(row, column) != v || h.low(row, column) != v || h.told(row, column)) {
				t.Errorf("the bounds at %d, %d of %v are %d and %d, and BoundTold is %v", row, column, h, h.low(row, column), h.high(row, column), h.told(row, column))
			}
		})
	}
}

// TestNothingHidden has tables of all sizes without a hidden cell.
func TestNothingHidden(t *testing.T) {
	for _, table := range sampleTables() {
		h := hiding{table: table}.none()
		if b := h.bounds(t); !sameBounds(b, bounds{table, table}) || h.many() != 0 || !h.fits(table) {
			t.Errorf("the bounds of %v are %v, BoundMany is %d, and FitTables %v", h, b, h.many(), h.fits(table))
		}
	}
}

func TestBoundsOutside(t *testing.T) {
	for _, h := range sampleHidings() {
		for _, p := range outside(sizeOf(h.table)) {
			if high, low := h.high(p[0], p[1]), h.low(p[0], p[1]); high != -1 || low != -1 || h.told(p[0], p[1]) {
				t.Errorf("the bounds at %v of %v are %d and %d, and BoundTold is %v", p, h, low, high, h.told(p[0], p[1]))
			}
		}
	}
}

// TestBoundsOfInvalidTables has masks that would fit if the table were one, and others.
func TestBoundsOfInvalidTables(t *testing.T) {
	for _, table := range invalidTables() {
		mask := make([][]bool, len(table))
		for row := range table {
			mask[row] = slices.Repeat([]bool{true}, len(table[row]))
		}
		hiding{table, mask}.expectNoBounds(t)
		for _, other := range [][][]bool{nil, {{true}}, uniform(size{2, 2}, true), uniform(size{4, 4}, false)} {
			hiding{table, other}.expectNoBounds(t)
		}
	}
}

func TestBoundsOfInvalidMasks(t *testing.T) {
	for _, s := range everySize() {
		for _, table := range [][][]int{uniform(s, 0), numbered(s), uniform(s, impl.CellMax)} {
			for _, mask := range append(otherMasks(s), slices.DeleteFunc(anyMasks(), rightLengths[bool])[:50]...) {
				hiding{table, mask}.expectNoBounds(t)
			}
		}
	}
}

// TestFitTablesOfOtherSizes has second rows of all lengths, without a number or with the sums of the table.
func TestFitTablesOfOtherSizes(t *testing.T) {
	lists := lengthLists[int]()
	for _, s := range everySize() {
		h := hiding{table: uniform(s, 0)}.all()
		for _, x := range lists {
			if want := rightLengths(x) && sizeOf(x) == s; h.fits(x) != want {
				t.Errorf("FitTables of zeros of the size %v and %v is %v", s, x, !want)
			}
		}
		h = hiding{table: numbered(s)}.all()
		for row := range s.rows {
			longer := withRow(h.table, row, append(slices.Clone(h.table[row]), 0))
			if h.fits(longer) || h.fits(append(copied(h.table), []int{})) || h.fits(append(copied(h.table), make([]int, s.columns))) || h.fits(h.table[1:]) || h.fits(withRow(h.table, row, h.table[row][1:])) {
				t.Errorf("FitTables of %v and rows of another size holds", h)
			}
		}
		if s.rows != s.columns && h.fits(turned(h.table)) {
			t.Errorf("FitTables of %v and the table turned holds", h)
		}
	}
}

// TestFitTablesOfBadNumbers has second rows with the sums of the table that have numbers out of their range.
func TestFitTablesOfBadNumbers(t *testing.T) {
	l := &lots{state: 45}
	bad := []int{impl.CellMax + 1, fitMost, fitMost + 1, fitMost + 2, math.MaxInt / 2, math.MaxInt, -1, -2, -fitMost, math.MinInt, math.MinInt + 1}
	for _, s := range everySize() {
		for _, table := range boundTables(l, s) {
			h := hiding{table: table}.all()
			eachPlace(table, func(row int, column int) {
				for _, v := range bad {
					if x := withCell(table, row, column, v); h.fits(x) {
						t.Errorf("FitTables of %v and %v holds", h, x)
					}
				}
			})
			for range 20 {
				if s.rows == 1 || s.columns == 1 {
					continue
				}
				for _, by := range bad {
					// One cell of a rectangle has more than all, or less than nothing.
					if x := l.ring(s).shifted(table, by); h.fits(x) != h.ownFits(x) {
						t.Errorf("FitTables of %v and %v is %v", h, x, h.fits(x))
					}
				}
			}
		}
	}
}

// TestFitTablesOfSumsThatOverflow has second rows without a negative number whose sums are those of the table only because they overflow.
func TestFitTablesOfSumsThatOverflow(t *testing.T) {
	for n := 3; n <= impl.SideMax; n++ {
		for _, v := range []int{0, 1, 7} {
			x := filled(size{n, n}, func(row int, column int) int {
				switch (row + column) % n {
				case 0, 1:
					return math.MaxInt
				case 2:
					return v + 2
				}
				return 0
			})
			table := filled(size{n, n}, func(row int, column int) int {
				if row == column {
					return v
				}
				return 0
			})
			h := hiding{table: table}.all()
			if !slices.Equal(rowTotals(x), rowTotals(table)) || !slices.Equal(columnTotals(x), columnTotals(table)) {
				t.Fatalf("%v and %v do not have the same sums", x, table)
			}
			if h.fits(x) {
				t.Errorf("FitTables of %v and %v holds", h, x)
			}
		}
	}
}

// TestBoundArgumentsStay looks at the room behind the lists, too: a function must not write there either.
func TestBoundArgumentsStay(t *testing.T) {
	for _, call := range boundCalls() {
		for i, h := range sampleHidings() {
			if i%3 == 0 {
				expectTableStays(t, h.table, h.mask, func(table [][]int, mask [][]bool) { call(hiding{table, mask}) })
			}
		}
		for i, table := range invalidTables() {
			if i%9 == 0 {
				expectTableStays(t, table, uniform(size{2, 3}, true), func(table [][]int, mask [][]bool) { call(hiding{table, mask}) })
			}
		}
		for i, mask := range anyMasks() {
			expectTableStays(t, numbered(everySize()[i%16]), mask, func(table [][]int, mask [][]bool) { call(hiding{table, mask}) })
		}
	}
}

// TestSecondRowsStay has second rows that fit, that do not, and that are no rows of a table.
func TestSecondRowsStay(t *testing.T) {
	l := &lots{state: 46}
	for i, h := range sampleHidings() {
		if i%5 != 0 {
			continue
		}
		for _, x := range append(h.someFitting(l), h.someNotFitting(l)...) {
			expectTableStays(t, x, nil, func(x [][]int, _ [][]bool) { h.fits(x) })
		}
	}
	for _, x := range invalidTables() {
		expectTableStays(t, x, nil, func(x [][]int, _ [][]bool) { hiding{table: numbered(size{2, 3})}.all().fits(x) })
	}
}

// TestBoundsKeepNothing overwrites the arguments of calls and expects that later calls with equal ones tell the same.
func TestBoundsKeepNothing(t *testing.T) {
	for _, h := range sampleHidings() {
		used := hiding{copied(h.table), copied(h.mask)}
		b, many, fits := used.bounds(t), used.many(), used.fits(used.table)
		eachPlace(used.table, func(row int, column int) {
			used.table[row][column] = (used.table[row][column] + 31) % (impl.CellMax + 1)
			used.mask[row][column] = !used.mask[row][column]
		})
		if want := used.cuts(); !sameBounds(used.bounds(t), want) {
			t.Errorf("the bounds of %v are %v, not %v", used, used.bounds(t), want)
		}
		if !sameBounds(h.bounds(t), b) || h.many() != many || h.fits(h.table) != fits {
			t.Errorf("the bounds of %v have changed from %v to %v", h, b, h.bounds(t))
		}
	}
}
