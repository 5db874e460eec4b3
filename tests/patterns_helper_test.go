package tests

import (
	"math"
	"slices"
	"testing"

	"loop.example/disclosurecontrol/impl"
)

// growing is a table with its second mask, a first mask and a distance: what the functions of chapter 14 are asked about.
type growing struct {
	hiding
	first [][]bool
	n     int
}

func (g growing) safe(row int, column int) bool {
	return impl.PatternSafe(g.table, g.mask, row, column, g.n)
}

func (g growing) ok() bool {
	return impl.PatternOk(g.table, g.first, g.mask, g.n)
}

func (g growing) need() int {
	return impl.PatternNeed(g.table, g.first, g.mask, g.n)
}

func (g growing) step() ([][]bool, bool) {
	return impl.PatternStep(g.table, g.first, g.mask, g.n)
}

func (g growing) grown() ([][]bool, bool) {
	return impl.PatternGrow(g.table, g.first, g.n)
}

func (h hiding) cost() int {
	return impl.PatternCost(h.table, h.mask)
}

// masked returns the same with another second mask.
func (g growing) masked(mask [][]bool) growing {
	g.mask = mask
	return g
}

// wanting returns the same with another first mask.
func (g growing) wanting(first [][]bool) growing {
	g.first = first
	return g
}

// apart returns the same with another distance.
func (g growing) apart(n int) growing {
	g.n = n
	return g
}

// flipped returns the same with rows and columns exchanged.
func (g growing) flipped() growing {
	return growing{g.hiding.turned(), turned(g.first), g.n}
}

// ownSafe returns what PatternSafe must return for a cell of the table, by the bounds that sums tell.
func (g growing) ownSafe(row int, column int) bool {
	if !g.mask[row][column] {
		return false
	}
	v := g.table[row][column]
	low, high := g.cut(row, column)
	return high-v >= g.n && (low == 0 || v-low >= g.n)
}

// ownUnmet returns the places of the first cells that are not hidden or not safe, row by row.
func (g growing) ownUnmet() [][2]int {
	var out [][2]int
	eachPlace(g.first, func(row int, column int) {
		if g.first[row][column] && !g.ownSafe(row, column) {
			out = append(out, [2]int{row, column})
		}
	})
	return out
}

// choice is a mask to which a step can lead, and what its new cells cost.
type choice struct {
	mask [][]bool
	cost int
}

// choices returns all masks to which a step can lead that hides the rectangles of a place, in the order in which they are looked at.
func (g growing) choices(i int, j int) []choice {
	var out []choice
	eachPlace(g.table, func(k int, l int) {
		next, cost := copied(g.mask), 0
		for _, p := range [][2]int{{i, j}, {i, l}, {k, j}, {k, l}} {
			if !g.mask[p[0]][p[1]] {
				next[p[0]][p[1]] = true
				cost += g.table[p[0]][p[1]]
			}
		}
		if k != i && l != j && !sameRows(next, g.mask) {
			out = append(out, choice{next, cost})
		}
	})
	return out
}

// cheapest returns the first one of the cheapest choices.
func cheapest(choices []choice) choice {
	return slices.MinFunc(choices, func(a choice, b choice) int { return a.cost - b.cost })
}

// ownStep returns what PatternStep must return.
func (g growing) ownStep() ([][]bool, bool) {
	unmet := g.ownUnmet()
	if len(unmet) == 0 {
		return nil, false
	}
	choices := g.choices(unmet[0][0], unmet[0][1])
	if len(choices) == 0 {
		return nil, false
	}
	return cheapest(choices).mask, true
}

// ownGrown returns the second masks through which PatternGrow must go, the first one of them being the first mask, and whether it succeeds with the last one.
func (g growing) ownGrown() ([][][]bool, bool) {
	out, ok := [][][]bool{g.first}, true
	for g = g.masked(g.first); len(g.ownUnmet()) > 0; g = g.masked(out[len(out)-1]) {
		var next [][]bool
		if next, ok = g.ownStep(); !ok {
			return out, false
		}
		out = append(out, next)
	}
	return out, true
}

// edge returns the greatest distance for which a hidden cell is safe, which may be greater than CellMax.
func (h hiding) edge(row int, column int) int {
	v := h.table[row][column]
	low, high := h.cut(row, column)
	if low == 0 {
		return high - v
	}
	return min(high-v, v-low)
}

// covers reports whether all set cells of a mask are set in another one of the same size.
func covers(mask [][]bool, less [][]bool) bool {
	return sameRows(mask, together(mask, less))
}

// together returns the cells that are set in at least one of two masks.
func together(a [][]bool, b [][]bool) [][]bool {
	return filled(sizeOf(a), func(row int, column int) bool { return a[row][column] || b[row][column] })
}

// without returns the cells that are set in a mask and not in another one.
func without(a [][]bool, b [][]bool) [][]bool {
	return filled(sizeOf(a), func(row int, column int) bool { return a[row][column] && !b[row][column] })
}

// firstMasks returns masks of a size for the first cells: no cell, one, two, all, a row, and cells drawn by lot.
func firstMasks(l *lots, s size) [][][]bool {
	none := uniform(s, false)
	row := l.below(s.rows)
	one := withCell(none, l.below(s.rows), l.below(s.columns), true)
	return [][][]bool{
		none, one, withCell(one, l.below(s.rows), l.below(s.columns), true), uniform(s, true),
		filled(s, func(i int, _ int) bool { return i == row }), l.flags(s, 4), l.flags(s, 2),
	}
}

// secondMask returns a second mask for a first one, of a kind from 0 to 8: this one, it with further cells, all cells, none, it without a cell, and others.
func secondMask(l *lots, first [][]bool, kind int) [][]bool {
	s := sizeOf(first)
	switch kind {
	case 0:
		return copied(first)
	case 1, 2:
		return together(first, l.flags(s, 4-kind))
	case 3:
		return together(first, filled(s, func(int, int) bool { return l.below(4) > 0 }))
	case 4:
		return uniform(s, true)
	case 5:
		return uniform(s, false)
	case 6:
		return withCell(together(first, l.flags(s, 2)), l.below(s.rows), l.below(s.columns), false)
	case 7:
		if s.rows > 1 && s.columns > 1 {
			return together(first, l.ring(s).mask(s))
		}
		return without(uniform(s, true), first)
	}
	return l.flags(s, 2)
}

// leastEdge returns the greatest distance for which all first cells that are hidden are safe, or CellMax if all distances are.
func (g growing) leastEdge() int {
	least := impl.CellMax
	eachPlace(g.first, func(row int, column int) {
		if g.first[row][column] && g.mask[row][column] {
			least = min(least, g.edge(row, column))
		}
	})
	return least
}

// someDistance returns a distance: 0, 1, CellMax, one drawn by lot, or one for which a first cell is, or all are, just safe or just not safe with the second mask.
func (g growing) someDistance(l *lots) int {
	switch l.below(11) {
	case 0:
		return 0
	case 1:
		return 1
	case 2:
		return impl.CellMax
	case 3:
		return l.below(10)
	case 4:
		return l.below(impl.CellMax + 1)
	case 5, 6:
		return g.leastEdge()
	case 7:
		return min(g.leastEdge()+1, impl.CellMax)
	}
	s := sizeOf(g.table)
	row, column := l.below(s.rows), l.below(s.columns)
	for range 5 {
		if !g.first[row][column] || !g.mask[row][column] {
			row, column = l.below(s.rows), l.below(s.columns)
		}
	}
	return min(g.edge(row, column)+l.below(2), impl.CellMax)
}

// sampleGrowings returns boundTables of all sizes with firstMasks, second masks and distances, other ones for each table; less for one row or one column, where no step is possible.
func sampleGrowings() []growing {
	l := &lots{state: 50}
	var out []growing
	for _, s := range everySize() {
		some := 2
		if s.rows > 1 && s.columns > 1 {
			some = 5
		}
		for _, table := range boundTables(l, s) {
			for _, first := range firstMasks(l, s) {
				for range some {
					g := growing{hiding{table, secondMask(l, first, l.below(9))}, first, 0}
					out = append(out, g.apart(g.someDistance(l)))
				}
			}
		}
	}
	return out
}

// eachSafe calls a function with sampleGrowings and each cell for which PatternSafe holds.
func eachSafe(t *testing.T, do func(g growing, row int, column int)) {
	t.Helper()
	met, far := 0, 0
	for _, g := range sampleGrowings() {
		eachPlace(g.table, func(row int, column int) {
			if g.safe(row, column) {
				met++
				if g.n > 0 {
					far++
				}
				do(g, row, column)
			}
		})
	}
	if met < 5000 || far < 1500 {
		t.Errorf("PatternSafe only holds %d times, and %d times for a distance of at least 1", met, far)
	}
}

// eachOk calls a function with the sampleGrowings for which PatternOk holds.
func eachOk(t *testing.T, do func(g growing)) {
	t.Helper()
	met, far := 0, 0
	for _, g := range sampleGrowings() {
		if g.ok() {
			met++
			if g.n > 0 && manySet(g.first) > 0 {
				far++
			}
			do(g)
		}
	}
	if met < 1000 || far < 200 {
		t.Errorf("PatternOk only holds %d times, and %d times with first cells and a distance of at least 1", met, far)
	}
}

// eachStep calls a function with the sampleGrowings for which PatternStep succeeds, and with its result.
func eachStep(t *testing.T, do func(g growing, next [][]bool)) {
	t.Helper()
	met := 0
	for _, g := range sampleGrowings() {
		if next, ok := g.step(); ok {
			met++
			do(g, next)
		}
	}
	if met < 800 {
		t.Errorf("PatternStep only succeeds %d times", met)
	}
}

// eachGrown calls a function with the sampleGrowings for which PatternGrow succeeds, and with its result.
func eachGrown(t *testing.T, do func(g growing, pattern [][]bool)) {
	t.Helper()
	met, more := 0, 0
	for _, g := range sampleGrowings() {
		if pattern, ok := g.grown(); ok {
			met++
			if manySet(pattern) > manySet(g.first) {
				more++
			}
			do(g, pattern)
		}
	}
	if met < 1500 || more < 300 {
		t.Errorf("PatternGrow only succeeds %d times, and %d times with further cells", met, more)
	}
}

// eachFurther calls a function with all masks that have one more cell set.
func eachFurther(mask [][]bool, do func(more [][]bool)) {
	eachPlace(mask, func(row int, column int) {
		if !mask[row][column] {
			do(withCell(mask, row, column, true))
		}
	})
}

// eachFewer calls a function with all masks that have one cell less set.
func eachFewer(mask [][]bool, do func(less [][]bool)) {
	eachPlace(mask, func(row int, column int) {
		if mask[row][column] {
			do(withCell(mask, row, column, false))
		}
	})
}

// badDistances returns numbers that are no distance.
func badDistances() []int {
	return []int{-1, -2, -impl.CellMax, impl.CellMax + 1, impl.CellMax + 2, fitMost, 1 << 32, -1 << 32, math.MaxInt, math.MaxInt - impl.CellMax, math.MinInt, math.MinInt + 1, math.MinInt + impl.CellMax}
}

// expectAnswers expects what the functions of chapter 14 must return for a table with two masks and a distance that are valid.
func (g growing) expectAnswers(t *testing.T) {
	t.Helper()
	eachPlace(g.table, func(row int, column int) {
		if want := g.ownSafe(row, column); g.safe(row, column) != want {
			t.Fatalf("PatternSafe at %d, %d of %v is %v", row, column, g, !want)
		}
	})
	unmet := len(g.ownUnmet())
	if g.need() != unmet || g.ok() != (unmet == 0) {
		t.Fatalf("PatternNeed of %v is %d, not %d, and PatternOk %v", g, g.need(), unmet, g.ok())
	}
	next, can := g.step()
	if want, ok := g.ownStep(); can != ok || !sameRows(next, want) {
		t.Fatalf("PatternStep of %v is %v, %v, not %v, %v", g, next, can, want, ok)
	}
	g.expectGrown(t)
}

// expectGrown expects what PatternGrow must return for a table with a first mask and a distance that are valid.
func (g growing) expectGrown(t *testing.T) {
	t.Helper()
	masks, ok := g.ownGrown()
	want := masks[len(masks)-1]
	if !ok {
		want = nil
	}
	if pattern, can := g.grown(); can != ok || !sameRows(pattern, want) {
		t.Fatalf("PatternGrow of %v from %v is %v, %v, not %v, %v", g.table, g.first, pattern, can, want, ok)
	}
}

// expectNone expects that the functions of chapter 14 with both masks and a distance refuse their arguments.
func (g growing) expectNone(t *testing.T) {
	t.Helper()
	if g.ok() || g.need() != -1 {
		t.Errorf("PatternOk of %v is %v, and PatternNeed %d", g, g.ok(), g.need())
	}
	if next, ok := g.step(); ok || len(next) > 0 {
		t.Errorf("PatternStep of %v is %v, %v", g, next, ok)
	}
}

// expectNoGrown expects that PatternGrow refuses its arguments.
func (g growing) expectNoGrown(t *testing.T) {
	t.Helper()
	if pattern, ok := g.grown(); ok || len(pattern) > 0 {
		t.Errorf("PatternGrow of %v from %v for %d is %v, %v", g.table, g.first, g.n, pattern, ok)
	}
}

// expectNoSafe expects that no cell is safe for any distance with a table and a mask, at least one of which is invalid, and that the mask has no cost.
func (h hiding) expectNoSafe(t *testing.T) {
	t.Helper()
	for _, p := range [][2]int{{0, 0}, {0, 1}, {1, 0}, {1, 1}, {3, 3}, {4, 4}, {-1, 0}, {math.MaxInt, math.MinInt}} {
		for _, n := range []int{0, 1, impl.CellMax, -1} {
			if impl.PatternSafe(h.table, h.mask, p[0], p[1], n) {
				t.Errorf("PatternSafe at %v of %v for %d holds", p, h, n)
			}
		}
	}
	if got := h.cost(); got != -1 {
		t.Errorf("PatternCost of %v is %d", h, got)
	}
}

// patternCalls are the functions of chapter 14, each called just once, as a change that is made twice may undo itself.
func patternCalls() []func(g growing) {
	return []func(g growing){
		func(g growing) { g.safe(0, 0) },
		func(g growing) { g.safe(len(g.table)-1, 1) },
		func(g growing) { g.safe(-1, 0) },
		func(g growing) { g.ok() },
		func(g growing) { g.need() },
		func(g growing) { g.step() },
		func(g growing) { g.grown() },
		func(g growing) { g.cost() },
		func(g growing) { g.wanting(g.mask).step() },
		func(g growing) { g.wanting(g.mask).grown() },
		func(g growing) { g.apart(-1).need() },
	}
}

// roomyGrowing returns the same arguments with room behind all lists that is not theirs, and a function that tells all of the memory in which they are.
func roomyGrowing(g growing) (growing, func() ([][]int, [][]bool)) {
	table, numbers := roomy(g.table)
	first, flags := roomyMask(g.first)
	mask, others := roomyMask(g.mask)
	whole := func() ([][]int, [][]bool) {
		return toCapacity(numbers), append(toCapacity(flags), toCapacity(others)...)
	}
	return growing{hiding{table, mask}, first, g.n}, whole
}

// expectStays calls a function with arguments that have room behind them, and expects that neither they nor the room change.
func (g growing) expectStays(t *testing.T, call func(g growing)) {
	t.Helper()
	used, whole := roomyGrowing(g)
	numbers, flags := whole()
	call(used)
	if after, set := whole(); !sameRows(after, numbers) || !sameRows(set, flags) {
		t.Fatalf("%v and %v became %v and %v", numbers, flags, after, set)
	}
}

// expectNewMask fills all memory of each row of a result with marks, and then clears the result itself, and expects that nothing else changes:
// no other row of the result, no other result, and no argument, nor the room behind it.
func (g growing) expectNewMask(t *testing.T, result func(g growing) ([][]bool, bool)) {
	t.Helper()
	for _, mark := range []bool{true, false} {
		used, whole := roomyGrowing(g)
		numbers, flags := whole()
		rows, ok := result(used)
		again, fine := result(used)
		if !ok || !fine {
			t.Fatalf("there is no result of %v", g)
		}
		want := copied(again)
		for i := range rows {
			expect := copied(rows)
			fill(rows[i], mark)
			copy(expect[i], rows[i])
			if !sameRows(rows, expect) {
				t.Fatalf("rows of a result of %v share their memory", g)
			}
		}
		clear(rows[:cap(rows)])
		if after, set := whole(); !sameRows(after, numbers) || !sameRows(set, flags) || !sameRows(again, want) {
			t.Fatalf("a result of %v shares its memory", g)
		}
	}
}

// patternAnswers is what the functions of chapter 14 tell.
type patternAnswers struct {
	ok           bool
	need, cost   int
	step, grown  [][]bool
	stepped, can bool
}

// answers asks the program, and copies what it tells.
func (g growing) answers() patternAnswers {
	step, stepped := g.step()
	grown, can := g.grown()
	return patternAnswers{g.ok(), g.need(), g.cost(), copied(step), copied(grown), stepped, can}
}

func sameAnswers(a patternAnswers, b patternAnswers) bool {
	return a.ok == b.ok && a.need == b.need && a.cost == b.cost && a.stepped == b.stepped && a.can == b.can && sameRows(a.step, b.step) && sameRows(a.grown, b.grown)
}
