package tests

import (
	"math"
	"slices"
	"testing"

	"loop.example/disclosurecontrol/impl"
)

// fitMost is the greatest number that the second rows of FitTables may have.
const fitMost = impl.SideMax * impl.CellMax

// hiding is a table with a mask of its hidden cells.
type hiding struct {
	table [][]int
	mask  [][]bool
}

func (h hiding) high(row int, column int) int {
	return impl.BoundHigh(h.table, h.mask, row, column)
}

func (h hiding) low(row int, column int) int {
	return impl.BoundLow(h.table, h.mask, row, column)
}

func (h hiding) told(row int, column int) bool {
	return impl.BoundTold(h.table, h.mask, row, column)
}

func (h hiding) many() int {
	return impl.BoundMany(h.table, h.mask)
}

func (h hiding) fits(x [][]int) bool {
	return impl.FitTables(h.table, h.mask, x)
}

// turned returns table and mask with rows and columns exchanged.
func (h hiding) turned() hiding {
	return hiding{turned(h.table), turned(h.mask)}
}

// of returns the same mask for another table of the same size.
func (h hiding) of(table [][]int) hiding {
	return hiding{table, h.mask}
}

// by returns the same table with another mask.
func (h hiding) by(mask [][]bool) hiding {
	return hiding{h.table, mask}
}

// all returns the same table with all cells hidden.
func (h hiding) all() hiding {
	return h.by(uniform(sizeOf(h.table), true))
}

// none returns the same table without a hidden cell.
func (h hiding) none() hiding {
	return h.by(uniform(sizeOf(h.table), false))
}

// bounds is the least and the greatest number of each cell in all tables that fit.
type bounds struct {
	low, high [][]int
}

// bounds asks the program for the bounds of all cells, none of which may be -1.
func (h hiding) bounds(t *testing.T) bounds {
	t.Helper()
	s := sizeOf(h.table)
	b := bounds{filled(s, h.low), filled(s, h.high)}
	eachPlace(h.table, func(row int, column int) {
		if b.low[row][column] < 0 || b.high[row][column] < 0 {
			t.Fatalf("the bounds of %v are %v", h, b)
		}
	})
	return b
}

func sameBounds(a bounds, b bounds) bool {
	return sameRows(a.low, b.low) && sameRows(a.high, b.high)
}

func (b bounds) turned() bounds {
	return bounds{turned(b.low), turned(b.high)}
}

// fillHidden calls a function with all rows that have given sums and are those of a table in the cells that are not hidden, from a place on, the cells before being filled.
// What is left of the sums is without the cells that are not hidden.
func (h hiding) fillHidden(x [][]int, n int, rows []int, columns []int, do func(x [][]int)) {
	s := sizeOf(h.table)
	if n == s.rows*s.columns {
		if slices.Max(rows) == 0 && slices.Max(columns) == 0 {
			do(x)
		}
		return
	}
	row, column := n/s.columns, n%s.columns
	if column == 0 && row > 0 && rows[row-1] > 0 {
		return
	}
	if !h.mask[row][column] {
		h.fillHidden(x, n+1, rows, columns, do)
		return
	}
	for v := range min(rows[row], columns[column]) + 1 {
		x[row][column] = v
		rows[row], columns[column] = rows[row]-v, columns[column]-v
		h.fillHidden(x, n+1, rows, columns, do)
		rows[row], columns[column] = rows[row]+v, columns[column]+v
	}
}

// eachFitting calls a function with all tables that fit, found by a search and without the program; the function must not keep them.
func (h hiding) eachFitting(do func(x [][]int)) {
	hidden := filled(sizeOf(h.table), func(row int, column int) int {
		if h.mask[row][column] {
			return h.table[row][column]
		}
		return 0
	})
	h.fillHidden(copied(h.table), 0, rowTotals(hidden), columnTotals(hidden), do)
}

// searched returns the bounds of all cells by a search through all tables that fit.
func (h hiding) searched() bounds {
	b := bounds{copied(h.table), copied(h.table)}
	h.eachFitting(func(x [][]int) {
		eachPlace(x, func(row int, column int) {
			b.low[row][column] = min(b.low[row][column], x[row][column])
			b.high[row][column] = max(b.high[row][column], x[row][column])
		})
	})
	return b
}

// has reports whether a number has the bit with an index set.
func has(bits int, k int) bool {
	return bits>>k&1 == 1
}

// closed returns the sum of the hidden cells that are in a chosen column and not in a chosen row, without one cell, and whether no hidden cell other than this one is in a chosen row and not in a chosen column.
// In all tables that fit, the chosen columns less the chosen rows are the same; so if there is no such cell, this one changes by no more than the sum.
func (h hiding) closed(rows int, columns int, row int, column int) (int, bool) {
	sum, none := 0, true
	eachPlace(h.mask, func(i int, j int) {
		if !h.mask[i][j] || i == row && j == column {
			return
		}
		if has(rows, i) && !has(columns, j) {
			none = false
		}
		if !has(rows, i) && has(columns, j) {
			sum += h.table[i][j]
		}
	})
	return sum, none
}

// cut returns the bounds of a cell by the least sum over all choices of rows and columns, and without a search: no matter how great the numbers are.
func (h hiding) cut(row int, column int) (low int, high int) {
	v := h.table[row][column]
	if !h.mask[row][column] {
		return v, v
	}
	s := sizeOf(h.table)
	up, down := math.MaxInt, v
	for rows := range 1 << s.rows {
		for columns := range 1 << s.columns {
			sum, ok := h.closed(rows, columns, row, column)
			if ok && !has(rows, row) && has(columns, column) {
				up = min(up, sum)
			}
			if ok && has(rows, row) && !has(columns, column) {
				down = min(down, sum)
			}
		}
	}
	return v - down, v + up
}

// cuts returns the bounds of all cells by cut.
func (h hiding) cuts() bounds {
	b := bounds{copied(h.table), copied(h.table)}
	eachPlace(h.table, func(row int, column int) {
		b.low[row][column], b.high[row][column] = h.cut(row, column)
	})
	return b
}

// ownFits returns what FitTables must return for a table with a mask and for second rows of any lengths.
func (h hiding) ownFits(x [][]int) bool {
	if !rightLengths(x) || sizeOf(x) != sizeOf(h.table) {
		return false
	}
	same := true
	eachPlace(x, func(row int, column int) {
		v := x[row][column]
		same = same && v >= 0 && v <= fitMost && (h.mask[row][column] || v == h.table[row][column])
	})
	return same && slices.Equal(rowTotals(x), rowTotals(h.table)) && slices.Equal(columnTotals(x), columnTotals(h.table))
}

// shuffled returns the numbers from 0 to n-1 in an order drawn by lot.
func (l *lots) shuffled(n int) []int {
	var out []int
	for k := range n {
		out = slices.Insert(out, l.below(k+1), k)
	}
	return out
}

// ring is places in turn in one row and in one column: (rows[0], columns[0]), (rows[0], columns[1]), (rows[1], columns[1]) and so on.
type ring struct {
	rows, columns []int
}

// ring returns the next ring of places of a size, that has at least two rows and two columns, drawn by lot.
func (l *lots) ring(s size) ring {
	n := 2 + l.below(min(s.rows, s.columns)-1)
	return ring{l.shuffled(s.rows)[:n], l.shuffled(s.columns)[:n]}
}

// shifted returns rows in which the places of a ring are greater and less by a number, in turn; so the sums stay.
func (r ring) shifted(x [][]int, by int) [][]int {
	out := copied(x)
	for k, row := range r.rows {
		out[row][r.columns[k]] += by
		out[row][r.columns[(k+1)%len(r.columns)]] -= by
	}
	return out
}

// mask returns the mask of a size with the places of a ring set.
func (r ring) mask(s size) [][]bool {
	return filled(s, func(row int, column int) bool { return r.shifted(uniform(s, 0), 1)[row][column] != 0 })
}

// someFitting returns tables that fit, the table itself as the first one, found by shifting numbers along rings drawn by lot.
func (h hiding) someFitting(l *lots) [][][]int {
	s := sizeOf(h.table)
	out := [][][]int{h.table}
	if s.rows == 1 || s.columns == 1 {
		return out
	}
	x := h.table
	for range 40 {
		by := []int{1, 1, 2, 5, 17, 60}[l.below(6)]
		if next := l.ring(s).shifted(x, by); h.ownFits(next) {
			x = next
			out = append(out, x)
		}
	}
	return out
}

// someNotFitting returns rows of the size of a table, most of which do not fit: they have other sums of the rows, of the columns or of both, a negative number, or another number in a cell that is not hidden.
func (h hiding) someNotFitting(l *lots) [][][]int {
	s := sizeOf(h.table)
	var out [][][]int
	eachPlace(h.table, func(row int, column int) {
		v := h.table[row][column]
		further := withCell(h.table, row, column, v+1)
		// Only the sums of the columns change, and only those of the rows.
		out = append(out, further, withCell(h.table, row, column, v-1),
			withCell(further, row, (column+1)%s.columns, further[row][(column+1)%s.columns]-1),
			withCell(further, (row+1)%s.rows, column, further[(row+1)%s.rows][column]-1))
	})
	for range 10 {
		if s.rows > 1 && s.columns > 1 {
			out = append(out, l.ring(s).shifted(h.table, 1+l.below(3)), l.ring(s).shifted(h.table, 1+l.below(impl.CellMax)))
		}
		out = append(out, l.drawn(s, 2), l.drawn(s, impl.CellMax))
	}
	return out
}

// boundTables returns tables of a size: with only zeros, only CellMax, a cell or a row of 0, numbers of their own, and drawn by lot.
func boundTables(l *lots, s size) [][][]int {
	great := l.drawn(s, impl.CellMax)
	out := [][][]int{uniform(s, 0), uniform(s, impl.CellMax), numbered(s), withRow(great, l.below(s.rows), make([]int, s.columns))}
	diagonal := filled(s, func(row int, column int) int {
		if row == column {
			return impl.CellMax
		}
		return l.below(2)
	})
	sparse := filled(s, func(int, int) int { return max(0, l.below(40)-20) })
	out = append(out, diagonal, sparse)
	for _, most := range []int{1, 2, 9, impl.CellMax / 2} {
		out = append(out, l.drawn(s, most))
	}
	return append(out, great)
}

// boundMasks returns masks of a size: without a cell, with all, with one and with all but one, with a row, a column and two cells of a row, with a rectangle and a longer ring, and drawn by lot.
func boundMasks(l *lots, s size) [][][]bool {
	none, all := uniform(s, false), uniform(s, true)
	row, column := l.below(s.rows), l.below(s.columns)
	out := [][][]bool{
		none, all, withCell(none, row, column, true), withCell(all, row, column, false),
		filled(s, func(i int, _ int) bool { return i == row }), filled(s, func(_ int, j int) bool { return j == column }),
		withCell(withCell(none, row, column, true), row, (column+1)%s.columns, true),
	}
	if s.rows > 1 && s.columns > 1 {
		rectangle := ring{l.shuffled(s.rows)[:2], l.shuffled(s.columns)[:2]}
		out = append(out, rectangle.mask(s), l.ring(s).mask(s), l.ring(s).mask(s))
	}
	for range 3 {
		out = append(out, l.flags(s, 2), l.flags(s, 3), filled(s, func(int, int) bool { return l.below(4) > 0 }))
	}
	return out
}

// sampleHidings returns boundTables of all sizes with boundMasks, other ones for each table.
func sampleHidings() []hiding {
	l := &lots{state: 40}
	var out []hiding
	for _, s := range everySize() {
		for _, table := range boundTables(l, s) {
			for _, mask := range boundMasks(l, s) {
				out = append(out, hiding{table, mask})
			}
		}
	}
	return out
}

// eachFit calls a function with sampleHidings and rows for which FitTables holds.
func eachFit(t *testing.T, do func(h hiding, x [][]int)) {
	t.Helper()
	l := &lots{state: 41}
	met, others, great := 0, 0, 0
	for _, h := range sampleHidings() {
		for _, x := range append(h.someFitting(l), h.someNotFitting(l)...) {
			if h.fits(x) {
				met++
				if !sameRows(x, h.table) {
					others++
				}
				if !impl.TableValid(x) {
					great++
				}
				do(h, x)
			}
		}
	}
	if met < 5000 || others < 3000 || great < 200 {
		t.Errorf("FitTables only holds %d times, %d times for other rows, and %d times with numbers greater than CellMax", met, others, great)
	}
}

// eachTableThatFits calls a function with sampleHidings and other tables for which FitTables holds.
func eachTableThatFits(t *testing.T, do func(h hiding, x [][]int)) {
	t.Helper()
	eachFit(t, func(h hiding, x [][]int) {
		if impl.TableValid(x) {
			do(h, x)
		}
	})
}

// hiddenIn returns how many cells of a row are hidden, without one of them.
func hiddenIn(flags []bool, without int) int {
	n := 0
	for column, set := range flags {
		if set && column != without {
			n++
		}
	}
	return n
}

// alone reports whether a hidden cell is the only one of its row or of its column.
func (h hiding) alone(row int, column int) bool {
	return h.mask[row][column] && (hiddenIn(h.mask[row], column) == 0 || hiddenIn(turned(h.mask)[column], row) == 0)
}

// everySmallTable calls a function with all tables of a size with numbers up to a greatest one; the function must not keep them.
func everySmallTable(s size, most int, do func(table [][]int)) {
	table := uniform(s, 0)
	var from func(n int)
	from = func(n int) {
		if n == s.rows*s.columns {
			do(table)
			return
		}
		for v := range most + 1 {
			table[n/s.columns][n%s.columns] = v
			from(n + 1)
		}
	}
	from(0)
}

// everyMask returns all masks of a size.
func everyMask(s size) [][][]bool {
	var out [][][]bool
	for bits := range 1 << (s.rows * s.columns) {
		out = append(out, filled(s, func(row int, column int) bool { return has(bits, row*s.columns+column) }))
	}
	return out
}

// smallTables is how great the numbers of all small tables of a size are, and of how many pairs of a table and a mask one is taken.
type smallTables struct {
	size
	most, some int
}

// everySmall returns sizes whose small tables are looked at with all masks, or with some of them where there are more than 50000 pairs.
func everySmall() []smallTables {
	return []smallTables{
		{size{1, 1}, 5, 1}, {size{1, 2}, 3, 1}, {size{2, 1}, 3, 1}, {size{1, 3}, 2, 1}, {size{3, 1}, 2, 1}, {size{1, 4}, 2, 1}, {size{4, 1}, 2, 1},
		{size{2, 2}, 3, 1}, {size{2, 3}, 2, 1}, {size{3, 2}, 2, 1}, {size{3, 3}, 1, 5}, {size{2, 4}, 1, 3}, {size{4, 2}, 1, 3},
	}
}

// eachSmallHiding calls a function with all small tables with all masks, or with some of them.
func eachSmallHiding(do func(h hiding)) {
	for _, small := range everySmall() {
		masks, n := everyMask(small.size), 0
		everySmallTable(small.size, small.most, func(table [][]int) {
			for _, mask := range masks {
				if n++; n%small.some == 0 {
					do(hiding{table, mask})
				}
			}
		})
	}
}

// outside returns indexes of rows and columns of which at least one is outside of a table.
func outside(s size) [][2]int {
	rows := []int{-1, -2, s.rows, s.rows + 1, impl.SideMax, impl.SideMax + 1, math.MinInt, math.MinInt + 1, math.MaxInt}
	columns := []int{-1, -2, s.columns, s.columns + 1, impl.SideMax, impl.SideMax + 1, math.MinInt, math.MinInt + 1, math.MaxInt}
	var out [][2]int
	for _, row := range append(rows, 0, s.rows-1) {
		for _, column := range append(columns, 0, s.columns-1) {
			if row < 0 || row >= s.rows || column < 0 || column >= s.columns {
				out = append(out, [2]int{row, column})
			}
		}
	}
	return out
}

// otherMasks returns flags that are no mask of a table of a size: of other sizes, with rows of different lengths, or no mask at all.
func otherMasks(s size) [][][]bool {
	all := uniform(s, true)
	out := [][][]bool{
		nil, {}, {nil}, {{}}, make([][]bool, s.rows), uniform(size{s.rows + 1, s.columns}, true), uniform(size{s.rows - 1, s.columns}, true),
		uniform(size{s.rows, s.columns + 1}, true), uniform(size{s.rows, s.columns - 1}, true), uniform(size{5000, 1}, true), uniform(size{1, 5000}, true),
	}
	for row := range all {
		out = append(out, withRow(all, row, make([]bool, s.columns-1)), withRow(all, row, make([]bool, s.columns+1)))
	}
	if s.rows != s.columns {
		out = append(out, turned(all))
	}
	// The only row of a mask may have another length only for another table.
	return slices.DeleteFunc(out, func(mask [][]bool) bool { return rightLengths(mask) && sizeOf(mask) == s })
}

// expectNoBounds expects that the functions of chapter 13 refuse a table and a mask.
func (h hiding) expectNoBounds(t *testing.T) {
	t.Helper()
	for _, p := range [][2]int{{0, 0}, {0, 1}, {1, 0}, {1, 1}, {3, 3}, {-1, 0}, {math.MaxInt, math.MinInt}} {
		if high, low := h.high(p[0], p[1]), h.low(p[0], p[1]); high != -1 || low != -1 || h.told(p[0], p[1]) {
			t.Errorf("the bounds at %v of %v are %d and %d", p, h, low, high)
		}
	}
	if many := h.many(); many != -1 {
		t.Errorf("BoundMany of %v is %d", h, many)
	}
	if h.fits(h.table) {
		t.Errorf("FitTables of %v holds", h)
	}
}

// boundCalls are the functions of chapter 13, each called just once, as a change that is made twice may undo itself.
func boundCalls() []func(h hiding) {
	return []func(h hiding){
		func(h hiding) { h.fits(h.table) },
		func(h hiding) { h.fits([][]int{{1, 2}, {0, 1}}) },
		func(h hiding) { h.high(0, 0) },
		func(h hiding) { h.high(len(h.table)-1, 1) },
		func(h hiding) { h.high(-1, 0) },
		func(h hiding) { h.low(0, 0) },
		func(h hiding) { h.low(1, len(h.table)-1) },
		func(h hiding) { h.low(0, 4) },
		func(h hiding) { h.told(0, 0) },
		func(h hiding) { h.told(len(h.table)-1, 0) },
		func(h hiding) { h.told(9, 9) },
		func(h hiding) { h.many() },
	}
}

// expectTold expects BoundTold for each cell and BoundMany as bounds tell them.
func (h hiding) expectTold(t *testing.T, b bounds) {
	t.Helper()
	many := 0
	eachPlace(h.table, func(row int, column int) {
		want := h.mask[row][column] && b.low[row][column] == b.high[row][column]
		if h.told(row, column) != want {
			t.Fatalf("BoundTold at %d, %d of %v is %v", row, column, h, !want)
		}
		if want {
			many++
		}
	})
	if h.many() != many {
		t.Fatalf("BoundMany of %v is %d, not %d", h, h.many(), many)
	}
}

// hiddenRows returns how many cells of each row are hidden.
func hiddenRows(mask [][]bool) []int {
	var out []int
	for _, flags := range mask {
		out = append(out, hiddenIn(flags, -1))
	}
	return out
}

// sameCounts reports whether some numbers of a list are v and all others 0.
func sameCounts(list []int, some int, v int) bool {
	list = slices.DeleteFunc(slices.Clone(list), func(n int) bool { return n == 0 })
	return slices.Equal(list, slices.Repeat([]int{v}, some))
}

// doubledRows returns rows with all numbers twice as great.
func doubledRows(x [][]int) [][]int {
	return filled(sizeOf(x), func(row int, column int) int { return 2 * x[row][column] })
}

// lastOnTop returns lists with the last one moved to the top.
func lastOnTop[T any](lists [][]T) [][]T {
	last := len(lists) - 1
	return slices.Concat(lists[last:], lists[:last])
}
