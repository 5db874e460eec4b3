package tests

import (
	"math"
	"slices"
	"testing"

	"loop.example/disclosurecontrol/impl"
)

// size is a number of rows and of columns.
type size struct {
	rows, columns int
}

// sizeOf returns the size of a table or a mask.
func sizeOf[T any](lists [][]T) size {
	return size{len(lists), len(lists[0])}
}

// everySize returns all sizes that a table can have.
func everySize() []size {
	var out []size
	for rows := 1; rows <= impl.SideMax; rows++ {
		for columns := 1; columns <= impl.SideMax; columns++ {
			out = append(out, size{rows, columns})
		}
	}
	return out
}

// filled returns lists of a size, whether a table can have it or not, with a function telling what is in each place.
func filled[T any](s size, tell func(row int, column int) T) [][]T {
	out := make([][]T, s.rows)
	for row := range out {
		out[row] = make([]T, s.columns)
		for column := range out[row] {
			out[row][column] = tell(row, column)
		}
	}
	return out
}

// uniform returns lists of a size with the same in all places.
func uniform[T any](s size, v T) [][]T {
	return filled(s, func(int, int) T { return v })
}

// drawn returns a table of a size with numbers up to a greatest one, drawn by lot.
func (l *lots) drawn(s size, most int) [][]int {
	return filled(s, func(int, int) int { return l.below(most + 1) })
}

// numbered returns the table of a size in which each cell has a number of its own.
func numbered(s size) [][]int {
	return filled(s, func(row int, column int) int { return 1 + row*s.columns + column })
}

func sameRows[T comparable](a [][]T, b [][]T) bool {
	return slices.EqualFunc(a, b, slices.Equal[[]T])
}

// withCell returns lists with something else in one place, in new memory.
func withCell[T any](lists [][]T, row int, column int, v T) [][]T {
	out := copied(lists)
	out[row][column] = v
	return out
}

// withRow returns lists with another one in the place of one of them, in new memory.
func withRow[T any](lists [][]T, row int, other []T) [][]T {
	out := copied(lists)
	out[row] = slices.Clone(other)
	return out
}

// sampleTables returns tables of all sizes: with only zeros, only CellMax, one cell that is not 0, equal rows in the same memory, and numbers drawn by lot.
func sampleTables() [][][]int {
	l := &lots{state: 20}
	var out [][][]int
	for _, s := range everySize() {
		zeros := uniform(s, 0)
		out = append(out, zeros, uniform(s, impl.CellMax), numbered(s), slices.Repeat(l.drawn(size{1, s.columns}, 30), s.rows))
		eachPlace(zeros, func(row int, column int) {
			out = append(out, withCell(zeros, row, column, 1), withCell(zeros, row, column, impl.CellMax))
		})
		for _, most := range []int{1, 3, 9, 33, impl.CellMax / 2, 60, impl.CellMax} {
			out = append(out, l.drawn(s, most), l.drawn(s, most))
		}
	}
	return out
}

// eachPlace calls a function with the indexes of the row and the column of each place.
func eachPlace[T any](lists [][]T, do func(row int, column int)) {
	for row := range lists {
		for column := range lists[row] {
			do(row, column)
		}
	}
}

// manyLengths is the number of ways that lengthLists has, each of 0 to SideMax+1 rows having one of as many lengths.
const manyLengths = 1 + 6 + 6*6 + 6*6*6 + 6*6*6*6 + 6*6*6*6*6

// lengthLists returns lists of zeros, with all combinations of lengths from 0 to SideMax+1 of up to SideMax+1 rows.
func lengthLists[T any]() [][][]T {
	out := [][][]T{nil}
	from := 0
	for range impl.SideMax + 1 {
		to := len(out)
		for _, lists := range out[from:to] {
			for n := range impl.SideMax + 2 {
				out = append(out, slices.Concat(lists, [][]T{make([]T, n)}))
			}
		}
		from = to
	}
	return out
}

// rightLengths reports whether lists have the lengths of a table.
func rightLengths[T any](lists [][]T) bool {
	return slices.ContainsFunc(everySize(), func(s size) bool {
		return len(lists) == s.rows && !slices.ContainsFunc(lists, func(list []T) bool { return len(list) != s.columns })
	})
}

// badCells returns numbers that no cell has.
func badCells() []int {
	return []int{-1, -2, -impl.CellMax, impl.CellMax + 1, impl.CellMax + 2, 10 * impl.CellMax, math.MinInt, math.MaxInt}
}

// invalidTables returns lists that are no table: of wrong or different lengths, or with one bad number in each place.
func invalidTables() [][][]int {
	out := [][][]int{nil, {}, {nil}, {{}}, make([][]int, 5000), {make([]int, 5000)}, uniform(size{5000, 1}, 1), {{1}, make([]int, 5000)}}
	for i, lists := range lengthLists[int]() {
		if (i < 300 || i%17 == 0) && !rightLengths(lists) {
			out = append(out, lists)
		}
	}
	for _, s := range everySize() {
		table := numbered(s)
		out = append(out, uniform(size{impl.SideMax + 1, s.columns}, 2), uniform(size{s.rows, impl.SideMax + 1}, 2), append(table, []int{}), append(table, make([]int, s.columns+1)))
		eachPlace(table, func(row int, column int) {
			for _, bad := range badCells() {
				out = append(out, withCell(table, row, column, bad))
			}
			if s.rows > 1 {
				out = append(out, withRow(table, row, table[row][:column]), withRow(table, row, make([]int, s.columns+1+column)))
			}
		})
	}
	return out
}

// turned returns lists with rows and columns exchanged, without the program.
func turned[T any](lists [][]T) [][]T {
	s := sizeOf(lists)
	return filled(size{s.columns, s.rows}, func(row int, column int) T { return lists[column][row] })
}

// total returns the sum of a list.
func total(list []int) int {
	sum := 0
	for _, v := range list {
		sum += v
	}
	return sum
}

// rowTotals returns the sum of each row, without the program.
func rowTotals(table [][]int) []int {
	out := make([]int, len(table))
	for row := range table {
		out[row] = total(table[row])
	}
	return out
}

// columnTotals returns the sum of each column, without the program.
func columnTotals(table [][]int) []int {
	return rowTotals(turned(table))
}

// ownFold returns what TableFold must return for a table and any two numbers.
func ownFold(table [][]int, a int, b int) ([][]int, bool) {
	if a < 0 || a >= b || b >= len(table) {
		return nil, false
	}
	var out [][]int
	for row := range table {
		sum := slices.Clone(table[row])
		for column := range sum {
			if row == a {
				sum[column] += table[b][column]
			}
		}
		if slices.Max(sum) > impl.CellMax {
			return nil, false
		}
		if row != b {
			out = append(out, sum)
		}
	}
	return out, true
}

// rowPairs returns pairs of numbers of rows: all that a table of SideMax rows has, and others, some of them far from any row.
func rowPairs() [][2]int {
	numbers := []int{math.MinInt, -2, -1}
	for row := range impl.SideMax + 2 {
		numbers = append(numbers, row)
	}
	numbers = append(numbers, math.MaxInt)
	var out [][2]int
	for _, a := range numbers {
		for _, b := range numbers {
			out = append(out, [2]int{a, b})
		}
	}
	return out
}

// eachFold calls a function with each table and each two rows that can be folded, and with the result of TableFold.
func eachFold(do func(table [][]int, a int, b int, folded [][]int)) {
	for _, table := range sampleTables() {
		for _, p := range rowPairs() {
			if folded, ok := impl.TableFold(table, p[0], p[1]); ok {
				do(table, p[0], p[1], folded)
			}
		}
	}
}

// smallBelow returns numbers below which a cell may be small: the edges, those out of all ranges, and those about the cells of a table.
func smallBelow(table [][]int) []int {
	out := []int{math.MinInt, -impl.CellMax, -2, -1, 0, 1, 2, 3, 5, impl.CellMax - 1, impl.CellMax, impl.CellMax + 1, impl.CellMax + 2, math.MaxInt}
	for _, row := range table {
		for _, v := range row {
			out = append(out, v, v+1)
		}
	}
	slices.Sort(out)
	return slices.Compact(out)
}

// ownSmall returns what MaskSmall must return for a table.
func ownSmall(table [][]int, k int) [][]bool {
	return filled(sizeOf(table), func(row int, column int) bool {
		v := table[row][column]
		return !(v <= 0 || v >= k)
	})
}

// manySet counts the flags that are set, without the program.
func manySet(mask [][]bool) int {
	return len(slices.DeleteFunc(slices.Concat(mask...), func(set bool) bool { return !set }))
}

// flags returns the next mask of a size, of which about one flag of some is set.
func (l *lots) flags(s size, some int) [][]bool {
	return filled(s, func(int, int) bool { return l.below(some) == 0 })
}

// sampleMasks returns masks of a size: without a flag, with all, with each one alone and each one missing, and drawn by lot.
func sampleMasks(s size) [][][]bool {
	l := &lots{state: 21}
	none, all := uniform(s, false), uniform(s, true)
	out := [][][]bool{none, all}
	eachPlace(none, func(row int, column int) {
		out = append(out, withCell(none, row, column, true), withCell(all, row, column, false))
	})
	for range 6 {
		out = append(out, l.flags(s, 2), l.flags(s, 4))
	}
	return out
}

// anyMasks returns lists of flags of all lengths, most of which are a mask of no table.
func anyMasks() [][][]bool {
	l := &lots{state: 22}
	out := [][][]bool{nil, {}, {nil}, {{}}, {{}, {true}, nil}, make([][]bool, 5000), {make([]bool, 5000)}, uniform(size{300, 200}, true)}
	for i, lists := range lengthLists[bool]() {
		if i < 300 || i%17 == 0 {
			mask := copied(lists)
			eachPlace(mask, func(row int, column int) { mask[row][column] = l.below(2) == 0 })
			out = append(out, mask)
		}
	}
	return out
}

// roomyMask returns a mask of which the list and each row have room behind them that is not theirs, and all of the memory in which they are.
func roomyMask(mask [][]bool) (list [][]bool, whole [][]bool) {
	whole = append(copied(mask), []bool{true, false}, []bool{false, true})
	for row, flags := range mask {
		whole[row] = append(slices.Clone(flags), row%2 == 0, row%2 == 1)[:len(flags)]
	}
	return whole[:len(mask)], whole
}

// expectTableStays calls a function with a table and a mask that have room behind them, and expects that neither they nor the room change.
func expectTableStays(t *testing.T, table [][]int, mask [][]bool, call func(table [][]int, mask [][]bool)) {
	t.Helper()
	numbers, all := roomy(table)
	flags, whole := roomyMask(mask)
	cells, set := toCapacity(all), toCapacity(whole)
	call(numbers, flags)
	if !sameRows(toCapacity(all), cells) || !sameRows(toCapacity(whole), set) {
		t.Fatalf("%v and %v became %v and %v", cells, set, toCapacity(all), toCapacity(whole))
	}
}

// expectNewRows fills all memory of each list of a result with marks, and then that of the result itself, and expects that nothing else changes:
// no other list of the result, no other result, and not the table, nor the room behind it.
func expectNewRows[T comparable](t *testing.T, table [][]int, result func(table [][]int) ([][]T, bool), marks ...T) {
	t.Helper()
	for _, mark := range marks {
		list, whole := roomy(table)
		before := toCapacity(whole)
		rows, ok := result(list)
		again, fine := result(list)
		if !ok || !fine {
			t.Fatalf("there is no result of %v", table)
		}
		want := copied(again)
		for i := range rows {
			expect := copied(rows)
			fill(rows[i], mark)
			copy(expect[i], rows[i])
			if !sameRows(rows, expect) {
				t.Fatalf("parts of a result of %v share their memory", table)
			}
		}
		clear(rows[:cap(rows)])
		if !sameRows(toCapacity(whole), before) || !sameRows(again, want) {
			t.Fatalf("a result of %v shares its memory", table)
		}
	}
}

// tableSums returns both lists of TableSums as one result.
func tableSums(table [][]int) ([][]int, bool) {
	rows, columns, ok := impl.TableSums(table)
	return [][]int{rows, columns}, ok
}

// tableOf returns TableOf, which must succeed.
func tableOf(t *testing.T, list []impl.Person) [][]int {
	t.Helper()
	table, ok := impl.TableOf(list)
	if !ok {
		t.Fatalf("TableOf of %v fails", list)
	}
	return table
}

// turnedBy returns TableTurn, which must succeed.
func turnedBy(t *testing.T, table [][]int) [][]int {
	t.Helper()
	out, ok := impl.TableTurn(table)
	if !ok {
		t.Fatalf("TableTurn of %v fails", table)
	}
	return out
}

// sumsOf returns TableSums, which must succeed.
func sumsOf(t *testing.T, table [][]int) (rows []int, columns []int) {
	t.Helper()
	rows, columns, ok := impl.TableSums(table)
	if !ok {
		t.Fatalf("TableSums of %v fails", table)
	}
	return rows, columns
}

// smallOf returns MaskSmall, which must succeed.
func smallOf(t *testing.T, table [][]int, k int) [][]bool {
	t.Helper()
	mask, ok := impl.MaskSmall(table, k)
	if !ok {
		t.Fatalf("MaskSmall of %v for %d fails", table, k)
	}
	return mask
}
