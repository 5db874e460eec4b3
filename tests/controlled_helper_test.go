package tests

import (
	"cmp"
	"fmt"
	"math"
	"math/big"
	"slices"
	"testing"

	"loop.example/disclosurecontrol/impl"
)

// controlMost is the greatest number of cells of a table that ControlRound rounds.
const controlMost = 9

// controlling is a table with a base: what the functions of chapter 22 are asked about.
type controlling struct {
	table [][]int
	base  int
}

func (c controlling) fits(x [][]int) bool {
	return impl.ControlFits(c.table, x, c.base)
}

func (c controlling) rounded() ([][]int, bool) {
	return impl.ControlRound(c.table, c.base)
}

func (c controlling) many() int {
	return impl.ControlMany(c.table, c.base)
}

// far returns ControlFar of the table and other rows.
func (c controlling) far(x [][]int) int {
	return impl.ControlFar(c.table, x)
}

// of returns the same base with another table.
func (c controlling) of(table [][]int) controlling {
	return controlling{table, c.base}
}

// turned returns the table with rows and columns exchanged.
func (c controlling) turned() controlling {
	return c.of(turned(c.table))
}

// cells returns how many cells the table has.
func (c controlling) cells() int {
	s := sizeOf(c.table)
	return s.rows * s.columns
}

// small reports whether ControlRound rounds tables of this size.
func (c controlling) small() bool {
	return c.cells() <= controlMost
}

// uneven returns how many numbers of a list are no multiples.
func (c controlling) uneven(list []int) int {
	n := 0
	for _, v := range list {
		if v%c.base != 0 {
			n++
		}
	}
	return n
}

// ownMultiples returns what a rounding may have for a number, in ascending order: all multiples that differ by less than the base.
func (c controlling) ownMultiples(v int) []int {
	var out []int
	for y := v - c.base + 1; y < v+c.base; y++ {
		if y%c.base == 0 {
			out = append(out, y)
		}
	}
	return out
}

// near reports whether all numbers of two lists differ by less than the base.
func (c controlling) near(a []int, b []int) bool {
	return slices.EqualFunc(a, b, func(v int, w int) bool { return v < w+c.base && w < v+c.base })
}

// broken tells which of the conditions rows of the same size break: one of the cells, and one of the sums of rows, of columns and of all cells, if no cell does.
func (c controlling) broken(x [][]int) [4]bool {
	cells := true
	eachPlace(x, func(row int, column int) {
		cells = cells && slices.Contains(c.ownMultiples(c.table[row][column]), x[row][column])
	})
	if !cells {
		return [4]bool{true}
	}
	rows, all := rowTotals(x), rowTotals(c.table)
	return [4]bool{false, !c.near(rows, all), !c.near(columnTotals(x), columnTotals(c.table)), !c.near([]int{total(rows)}, []int{total(all)})}
}

// ownFits returns what ControlFits must return for a table and a base that are valid, and for second rows of any lengths.
func (c controlling) ownFits(x [][]int) bool {
	return rightLengths(x) && sizeOf(x) == sizeOf(c.table) && c.broken(x) == [4]bool{}
}

// rowRoundings returns all lists of multiples for a row whose sum is near.
func (c controlling) rowRoundings(row []int) [][]int {
	out := [][]int{nil}
	for _, v := range row {
		var longer [][]int
		for _, list := range out {
			for _, y := range c.ownMultiples(v) {
				longer = append(longer, append(slices.Clone(list), y))
			}
		}
		out = longer
	}
	return slices.DeleteFunc(out, func(list []int) bool { return !c.near([]int{total(list)}, []int{total(row)}) })
}

// ownRoundings returns all roundings of a table, found by putting lists for the rows together; they share their rows.
func (c controlling) ownRoundings() [][][]int {
	out := [][][]int{nil}
	for _, row := range c.table {
		var longer [][][]int
		for _, list := range c.rowRoundings(row) {
			for _, x := range out {
				longer = append(longer, append(slices.Clone(x), list))
			}
		}
		out = longer
	}
	return slices.DeleteFunc(out, func(x [][]int) bool { return !c.ownFits(x) })
}

// ownBest returns what ControlRound must return, of all roundings.
func (c controlling) ownBest(roundings [][][]int) [][]int {
	return slices.MinFunc(roundings, func(a [][]int, b [][]int) int {
		return cmp.Or(ownFar(c.table, a)-ownFar(c.table, b), slices.CompareFunc(a, b, slices.Compare[[]int]))
	})
}

// ownFar returns what ControlFar must return: the sum of numbers of any length, and the greatest integer if it is greater.
func ownFar(a [][]int, b [][]int) int {
	if len(a) != len(b) {
		return -1
	}
	sum := new(big.Int)
	for row := range a {
		if len(a[row]) != len(b[row]) {
			return -1
		}
		for column := range a[row] {
			far := new(big.Int).Sub(big.NewInt(int64(a[row][column])), big.NewInt(int64(b[row][column])))
			sum.Add(sum, far.Abs(far))
		}
	}
	if sum.Cmp(big.NewInt(math.MaxInt)) > 0 {
		return math.MaxInt
	}
	return int(sum.Int64())
}

// evened returns a table in which the last cell of each row is another one, so that all sums of rows are multiples.
func evened(table [][]int, base int) [][]int {
	return filled(sizeOf(table), func(row int, column int) int {
		v, before := table[row][column], total(table[row][:column])
		if column < len(table[row])-1 {
			return v
		}
		return v - v%base + (base-before%base)%base
	})
}

// controlTables returns tables of a size: with only zeros, only CellMax, multiples alone or but for one cell or outside of one row or column, numbers below the base, equal numbers, sums that are multiples, halves of the base, and drawn by lot.
func controlTables(l *lots, s size, base int) [][][]int {
	drawn, great := l.drawn(s, 60), l.drawn(s, impl.CellMax)
	multiples := changed(drawn, func(v int) int { return v - v%base })
	row, column := l.below(s.rows), l.below(s.columns)
	rows := evened(drawn, base)
	return [][][]int{
		uniform(s, 0), uniform(s, impl.CellMax), numbered(s), multiples, great, l.drawn(s, 2*base), l.drawn(s, base-1),
		changed(great, func(v int) int { return v - v%base }),
		withCell(multiples, row, column, multiples[row][column]+1+l.below(base-1)),
		withRow(great, row, multiples[row]), turned(withRow(turned(great), column, turned(multiples)[column])),
		filled(s, func(i int, j int) int { return multiples[i][j] + l.below(2)*(1+l.below(base-1)) }),
		uniform(s, 1), uniform(s, base/2), uniform(s, (base+1)/2), uniform(s, base-1),
		rows, turned(evened(turned(drawn), base)), turned(evened(turned(rows), base)),
		filled(s, func(int, int) int { return []int{0, base / 2, (base + 1) / 2}[l.below(3)] }),
		filled(s, func(i int, j int) int { return multiples[i][j] + []int{base / 2, (base + 1) / 2}[l.below(2)] }),
	}
}

// sampleControls returns controlTables of all sizes for several bases.
func sampleControls() []controlling {
	l := &lots{state: 80}
	var out []controlling
	for _, s := range everySize() {
		for _, base := range []int{2, 3, 4, 5, 7, 10, 12, 19, impl.BaseMax} {
			for _, table := range controlTables(l, s, base) {
				out = append(out, controlling{table, base})
			}
		}
	}
	return out
}

// smallControls returns the sampleControls that ControlRound rounds.
func smallControls() []controlling {
	return slices.DeleteFunc(sampleControls(), func(c controlling) bool { return !c.small() })
}

// someRoundings returns roundings of a table of any size: lists for the rows drawn by lot, where they are a rounding together.
func (c controlling) someRoundings(l *lots) [][][]int {
	var lists [][][]int
	for _, row := range c.table {
		lists = append(lists, c.rowRoundings(row))
	}
	var out [][][]int
	for range 400 {
		var x [][]int
		for _, list := range lists {
			x = append(x, slices.Clone(list[l.below(len(list))]))
		}
		if c.ownFits(x) {
			out = append(out, x)
		}
		if len(out) == 6 {
			break
		}
	}
	return out
}

// anyMultiples returns rows of multiples, one of those that a rounding may have for each cell, drawn by lot; their sums may be far.
func (c controlling) anyMultiples(l *lots) [][]int {
	return changed(c.table, func(v int) int {
		multiples := c.ownMultiples(v)
		return multiples[l.below(len(multiples))]
	})
}

// changedRoundings returns rows that differ from others in one cell: by the base, by twice it, by 1, or by much.
func (c controlling) changedRoundings(x [][]int) [][][]int {
	var out [][][]int
	eachPlace(x, func(row int, column int) {
		for _, by := range []int{c.base, -c.base, 2 * c.base, -2 * c.base, 1, -1, 1000 * c.base, -1000 * c.base} {
			out = append(out, withCell(x, row, column, x[row][column]+by))
		}
	})
	return out
}

// someNoRoundings returns rows of the size of a table, most of which are no rounding of it.
func (c controlling) someNoRoundings(l *lots) [][][]int {
	s := sizeOf(c.table)
	out := [][][]int{
		c.table, uniform(s, 0), uniform(s, c.base),
		changed(c.table, func(v int) int { return c.ownMultiples(v)[0] }),
		changed(c.table, func(v int) int { return slices.Max(c.ownMultiples(v)) }),
	}
	for range 12 {
		out = append(out, c.anyMultiples(l))
	}
	return append(out, c.changedRoundings(c.anyMultiples(l))...)
}

// candidates returns rows of the size of a table, some of which are roundings of it.
func (c controlling) candidates(l *lots) [][][]int {
	roundings := c.someRoundings(l)
	out := append(roundings, c.someNoRoundings(l)...)
	if len(roundings) > 0 {
		out = append(out, c.changedRoundings(roundings[0])...)
	}
	return out
}

// eachControlFit calls a function with sampleControls and rows for which ControlFits holds.
func eachControlFit(t *testing.T, do func(c controlling, x [][]int)) {
	t.Helper()
	l := &lots{state: 81}
	met, others, large := 0, 0, 0
	for _, c := range sampleControls() {
		for _, x := range c.candidates(l) {
			if !c.fits(x) {
				continue
			}
			met++
			if !sameRows(x, c.table) {
				others++
			}
			if !c.small() {
				large++
			}
			do(c, x)
		}
	}
	if met < 15000 || others < 10000 || large < 3000 {
		t.Errorf("ControlFits only holds %d times, %d times for other rows, and %d times for more than %d cells", met, others, large, controlMost)
	}
}

// eachRounded calls a function with smallControls and with the result of ControlRound, which must succeed.
func eachRounded(t *testing.T, do func(c controlling, x [][]int)) {
	t.Helper()
	for _, c := range smallControls() {
		do(c, c.expectRounded(t))
	}
}

// expectRounded returns the result of ControlRound, which must succeed and have the size of the table.
func (c controlling) expectRounded(t *testing.T) [][]int {
	t.Helper()
	x, ok := c.rounded()
	if !ok || !rightLengths(x) || sizeOf(x) != sizeOf(c.table) {
		t.Fatalf("ControlRound of %v is %v, %v", c, x, ok)
	}
	return x
}

// eachControlMany calls a function with smallControls and with ControlMany of them, which must not be -1.
func eachControlMany(t *testing.T, do func(c controlling, many int)) {
	t.Helper()
	for _, c := range smallControls() {
		many := c.many()
		if many == -1 {
			t.Fatalf("ControlMany of %v is -1", c)
		}
		do(c, many)
	}
}

// someRows returns pairs of lists of rows: roundings and others with their tables, and rows of any lengths with any numbers, none of which are far apart.
func someRows() []comparing {
	l := &lots{state: 82}
	var out []comparing
	for i, c := range sampleControls() {
		if i%7 == 0 {
			for _, x := range c.candidates(l) {
				out = append(out, comparing{c.table, x})
			}
		}
	}
	for i, lists := range lengthLists[int]() {
		if i < 300 || i%37 == 0 {
			tell := func(int) int { return l.below(2001) - 1000 }
			out = append(out, comparing{refilled(lists, tell), refilled(lists, tell)}, comparing{lists, lists}, comparing{lists, refilled(lists, tell)})
		}
	}
	huge := filled(size{300, 200}, func(int, int) int { return l.below(1000) - 500 })
	return append(out, comparing{huge, changed(huge, func(v int) int { return -v })}, comparing{huge, huge}, comparing{uniform(size{1, 5000}, 3), uniform(size{1, 5000}, -4)})
}

// refilled returns lists of the same lengths, whatever they are, with a function telling what each number becomes.
func refilled(lists [][]int, tell func(v int) int) [][]int {
	out := copied(lists)
	eachPlace(out, func(row int, column int) { out[row][column] = tell(out[row][column]) })
	return out
}

// extremeRows returns rows with the least and the greatest integers, one or several of them.
func extremeRows() [][][]int {
	l := &lots{state: 83}
	some := []int{math.MinInt, math.MinInt + 1, math.MinInt + 2, math.MinInt / 2, -1, 0, 1, 5, math.MaxInt / 2, math.MaxInt/2 + 1, math.MaxInt - 5, math.MaxInt - 1, math.MaxInt}
	var out [][][]int
	for _, v := range some {
		out = append(out, [][]int{{v}}, [][]int{{v, 0}}, [][]int{{0}, {v}}, [][]int{{v, v}}, [][]int{{v}, {v}}, uniform(size{2, 2}, v))
	}
	for range 60 {
		for _, s := range []size{{1, 2}, {2, 1}, {2, 2}, {3, 3}} {
			out = append(out, filled(s, func(int, int) int { return some[l.below(len(some))] }))
		}
	}
	return out
}

// expectControl expects what ControlRound and ControlMany must return for a table of at most 9 cells and a base that are valid.
func (c controlling) expectControl(t *testing.T) {
	t.Helper()
	roundings := c.ownRoundings()
	if many := c.many(); many != len(roundings) {
		t.Fatalf("ControlMany of %v is %d, not %d", c, many, len(roundings))
	}
	if x, want := c.expectRounded(t), c.ownBest(roundings); !sameRows(x, want) {
		t.Fatalf("ControlRound of %v is %v, not %v", c, x, want)
	}
}

// expectNotRounded expects that ControlRound and ControlMany refuse a table and a base.
func (c controlling) expectNotRounded(t *testing.T) {
	t.Helper()
	if x, ok := c.rounded(); ok || len(x) != 0 {
		t.Fatalf("ControlRound of %v is %v, %v", c, x, ok)
	}
	if many := c.many(); many != -1 {
		t.Fatalf("ControlMany of %v is %d", c, many)
	}
}

// expectNoFit expects that no rows of a list are a rounding.
func (c controlling) expectNoFit(t *testing.T, lists ...[][]int) {
	t.Helper()
	for _, x := range lists {
		if c.fits(x) {
			t.Fatalf("ControlFits of %v and %v holds", c, x)
		}
	}
}

// likeTable returns rows of the lengths of lists, whatever they are, with all numbers brought into the range of cells, and rounded down for a base.
func likeTable(lists [][]int, base int) [][]int {
	return refilled(lists, func(v int) int {
		v = min(max(v, 0), impl.CellMax)
		return v - v%base
	})
}

// controlCalls are the functions of chapter 22 with two lists of rows and a base, each called just once, as a change that is made twice may undo itself.
func controlCalls() []func(c comparing, base int) {
	return []func(c comparing, base int){
		func(c comparing, base int) { impl.ControlFits(c.a, c.b, base) },
		func(c comparing, base int) { impl.ControlFar(c.a, c.b) },
		func(c comparing, base int) { impl.ControlRound(c.a, base) },
		func(c comparing, base int) { impl.ControlMany(c.a, base) },
		func(c comparing, _ int) { impl.ControlRound(c.a, 1) },
	}
}

// controlAsked is a call of a function of chapter 22, and what it must return.
type controlAsked struct {
	ask  func() string
	want string
}

// askedControls returns calls of all functions of chapter 22, refused ones among them, about every some of the sampleControls.
func askedControls(some int) []controlAsked {
	l := &lots{state: 84}
	var out []controlAsked
	add := func(want string, ask func() string) { out = append(out, controlAsked{ask, want}) }
	for i, c := range sampleControls() {
		if i%some != 0 {
			continue
		}
		candidates := c.candidates(l)
		x := candidates[l.below(len(candidates))]
		add(fmt.Sprint(c.ownFits(x)), func() string { return fmt.Sprint(c.fits(x)) })
		add(fmt.Sprint(ownFar(c.table, x)), func() string { return fmt.Sprint(c.far(x)) })
		best, many := [][]int{}, -1
		if c.small() {
			roundings := c.ownRoundings()
			best, many = c.ownBest(roundings), len(roundings)
		}
		add(fmt.Sprint(best, c.small()), func() string { return fmt.Sprint(c.rounded()) })
		add(fmt.Sprint(many), func() string { return fmt.Sprint(c.many()) })
	}
	bad := controlling{[][]int{{1, 2}, {3}}, 5}
	add("[] false", func() string { return fmt.Sprint(bad.rounded()) })
	add("-1", func() string { return fmt.Sprint(bad.many()) })
	add("false", func() string { return fmt.Sprint(bad.fits([][]int{{0, 0}, {5}})) })
	add("-1", func() string { return fmt.Sprint(bad.far([][]int{{0}, {5, 5}})) })
	return out
}
