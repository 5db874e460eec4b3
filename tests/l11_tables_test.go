package tests

import (
	"math"
	"slices"
	"testing"

	"loop.example/disclosurecontrol/impl"
)

func TestTableConstants(t *testing.T) {
	if impl.SideMax != 4 || impl.CellMax != 99 {
		t.Errorf("SideMax %d, CellMax %d", impl.SideMax, impl.CellMax)
	}
}

// TestTableHelpers keeps the tests below from passing because they never meet what they are about.
func TestTableHelpers(t *testing.T) {
	met := map[string]int{}
	count := func(name string, is bool) {
		if is {
			met[name]++
		}
	}
	for _, table := range sampleTables() {
		s, cells := sizeOf(table), slices.Concat(table...)
		count("one cell", s == size{1, 1})
		count("one row", s.rows == 1 && s.columns == impl.SideMax)
		count("one column", s.rows == impl.SideMax && s.columns == 1)
		count("all sides", s == size{impl.SideMax, impl.SideMax})
		count("more rows", s.rows > s.columns)
		count("more columns", s.rows < s.columns)
		count("zeros", total(cells) == 0)
		count("all CellMax", slices.Min(cells) == impl.CellMax)
		count("0 and CellMax", slices.Min(cells) == 0 && slices.Max(cells) == impl.CellMax)
	}
	eachFold(func(table [][]int, a int, b int, folded [][]int) {
		count("fold first and last", a == 0 && b == impl.SideMax-1)
		count("fold the only two", len(table) == 2)
		count("fold neighbors", a > 0 && b == a+1)
		count("fold to more than half", slices.Max(folded[a]) > impl.CellMax/2)
	})
	for _, mask := range sampleMasks(size{2, 3}) {
		count("no flag", manySet(mask) == 0)
		count("all flags", manySet(mask) == 6)
		count("some flags", manySet(mask) == 3)
	}
	if len(met) != 16 || len(lengthLists[int]()) != manyLengths || len(invalidTables()) < 1500 || len(everySize()) != 16 {
		t.Errorf("only met %v, %d combinations of lengths and %d invalid tables", met, len(lengthLists[int]()), len(invalidTables()))
	}
}

func TestPromise82TableValid(t *testing.T) {
	for _, table := range sampleTables() {
		s := sizeOf(table)
		for n := 1; n <= s.rows; n++ {
			if !impl.TableValid(table[:n]) {
				t.Fatalf("%v is not valid", table[:n])
			}
		}
		if further := slices.Concat(table, [][]int{make([]int, s.columns+1)}); impl.TableValid(further) {
			t.Errorf("%v is valid", further)
		}
		for row := range table {
			// The only row of a table may be longer, as long as there are not more than SideMax columns.
			longer := withRow(table, row, append(slices.Clone(table[row]), 1))
			if impl.TableValid(longer) != (s.rows == 1 && s.columns < impl.SideMax) {
				t.Errorf("TableValid of %v is %v", longer, impl.TableValid(longer))
			}
		}
		eachPlace(table, func(row int, column int) {
			for _, bad := range badCells() {
				if other := withCell(table, row, column, bad); impl.TableValid(other) {
					t.Errorf("%v is valid", other)
				}
			}
		})
	}
}

func TestPromise83TableOf(t *testing.T) {
	for _, list := range samplePeople() {
		table := tableOf(t, list)
		if len(table) != impl.Codes || impl.TableTotal(table) != len(list) {
			t.Fatalf("TableOf of %v is %v", list, table)
		}
		for area := range table {
			if len(table[area]) != impl.Codes {
				t.Fatalf("TableOf of %v is %v", list, table)
			}
			for job, got := range table[area] {
				if want := many(list, asked{area, job, -1}); got != want {
					t.Errorf("TableOf of %v has %d for the area %d and the job %d, not %d", list, got, area, job, want)
				}
			}
		}
	}
}

func TestPromise84TableSums(t *testing.T) {
	for _, table := range sampleTables() {
		rows, columns := sumsOf(t, table)
		if len(rows) != len(table) || len(columns) != len(table[0]) {
			t.Fatalf("TableSums of %v is %v and %v", table, rows, columns)
		}
		if whole := impl.TableTotal(table); total(rows) != whole || total(columns) != whole {
			t.Errorf("TableSums of %v is %v and %v, and TableTotal %d", table, rows, columns, whole)
		}
	}
}

func TestPromise85RowSums(t *testing.T) {
	for _, table := range sampleTables() {
		rows, columns := sumsOf(t, table)
		for row, cells := range table {
			if rows[row] != total(cells) {
				t.Errorf("TableSums of %v has %d for the row %d", table, rows[row], row)
			}
		}
		turnedRows, turnedColumns := sumsOf(t, turnedBy(t, table))
		if !slices.Equal(turnedRows, columns) || !slices.Equal(turnedColumns, rows) {
			t.Errorf("TableSums of %v is %v and %v, and of TableTurn %v and %v", table, rows, columns, turnedRows, turnedColumns)
		}
	}
}

func TestPromise86TableTurn(t *testing.T) {
	for _, table := range sampleTables() {
		out := turnedBy(t, table)
		if len(out) != len(table[0]) {
			t.Fatalf("TableTurn of %v is %v", table, out)
		}
		for j := range out {
			if len(out[j]) != len(table) {
				t.Fatalf("TableTurn of %v is %v", table, out)
			}
			for i := range out[j] {
				if out[j][i] != table[i][j] {
					t.Errorf("TableTurn of %v has %d at %d, %d", table, out[j][i], j, i)
				}
			}
		}
		if again := turnedBy(t, out); !sameRows(again, table) {
			t.Errorf("TableTurn of TableTurn of %v is %v", table, again)
		}
	}
}

func TestPromise87TableFold(t *testing.T) {
	eachFold(func(table [][]int, a int, b int, folded [][]int) {
		if len(folded) != len(table)-1 || impl.TableTotal(folded) != impl.TableTotal(table) {
			t.Fatalf("TableFold %d, %d of %v is %v", a, b, table, folded)
		}
		_, columns := sumsOf(t, table)
		if _, got := sumsOf(t, folded); !slices.Equal(got, columns) {
			t.Errorf("TableFold %d, %d of %v has the column sums %v", a, b, table, got)
		}
		others := slices.Concat(table[:a], table[a+1:b], table[b+1:])
		if got := slices.Concat(folded[:a], folded[a+1:]); !sameRows(got, others) {
			t.Errorf("TableFold %d, %d of %v has the other rows %v", a, b, table, got)
		}
	})
}

func TestPromise88FoldOfTableOf(t *testing.T) {
	for _, list := range samplePeople() {
		folded, ok := impl.TableFold(tableOf(t, list), 0, 1)
		if !ok || len(folded) != impl.Codes-1 {
			t.Fatalf("TableFold of TableOf of %v is %v, %v", list, folded, ok)
		}
		changed := joined(list)
		for k := range changed {
			if changed[k].Area == 1 {
				changed[k].Area = 0
			}
		}
		want := tableOf(t, changed)
		if total(want[1]) != 0 || !sameRows(folded, slices.Concat(want[:1], want[2:])) {
			t.Errorf("TableFold of TableOf of %v is %v, and TableOf without the area 1 %v", list, folded, want)
		}
	}
}

func TestPromise89MaskValid(t *testing.T) {
	l := &lots{state: 23}
	for _, s := range everySize() {
		table := l.drawn(s, impl.CellMax)
		for _, mask := range sampleMasks(s) {
			if !impl.MaskValid(table, mask) || impl.MaskMany(mask) > s.rows*s.columns {
				t.Fatalf("MaskValid of %v and %v is %v, and MaskMany %d", table, mask, impl.MaskValid(table, mask), impl.MaskMany(mask))
			}
			if impl.MaskValid(table, mask[1:]) || impl.MaskValid(table, slices.Concat(mask[:1], mask)) || impl.MaskValid(table, slices.Concat(mask, mask[:1])) {
				t.Errorf("%v has another row, and is a mask of %v", mask, table)
			}
		}
	}
}

func TestPromise90MaskManyOfParts(t *testing.T) {
	lists := anyMasks()
	for _, s := range everySize() {
		lists = append(lists, sampleMasks(s)...)
	}
	for _, mask := range lists {
		for _, n := range []int{0, 1, len(mask) / 2, len(mask) - 1, len(mask)} {
			if n = min(max(n, 0), len(mask)); impl.MaskMany(mask) != impl.MaskMany(mask[:n])+impl.MaskMany(mask[n:]) {
				t.Errorf("MaskMany of %v is not that of the first %d rows and of the others", mask, n)
			}
		}
	}
}

func TestPromise91MaskSmall(t *testing.T) {
	for _, table := range sampleTables() {
		before := uniform(sizeOf(table), false)
		for _, k := range smallBelow(table) {
			mask := smallOf(t, table, k)
			if !impl.MaskValid(table, mask) {
				t.Fatalf("MaskSmall of %v for %d is %v", table, k, mask)
			}
			eachPlace(table, func(row int, column int) {
				v := table[row][column]
				if mask[row][column] != (v > 0 && v < k) || before[row][column] && !mask[row][column] {
					t.Errorf("MaskSmall of %v for %d is %v, and for a lesser number %v", table, k, mask, before)
				}
			})
			before = mask
		}
	}
}

func TestPromise92RowSumsOfFold(t *testing.T) {
	eachFold(func(table [][]int, a int, b int, folded [][]int) {
		want, _ := sumsOf(t, table)
		want[a] += want[b]
		want = slices.Delete(want, b, b+1)
		if got, _ := sumsOf(t, folded); !slices.Equal(got, want) {
			t.Errorf("TableFold %d, %d of %v has the row sums %v, not %v", a, b, table, got, want)
		}
	})
}

func TestPromise93TableTotal(t *testing.T) {
	for _, table := range sampleTables() {
		whole := impl.TableTotal(table)
		for n := 1; n < len(table); n++ {
			if first, others := impl.TableTotal(table[:n]), impl.TableTotal(table[n:]); first < 0 || others < 0 || first+others != whole {
				t.Errorf("TableTotal of %v is %d, and of %d rows and the others %d and %d", table, whole, n, first, others)
			}
		}
		if got := impl.TableTotal(turnedBy(t, table)); got != whole {
			t.Errorf("TableTotal of %v is %d, and of TableTurn %d", table, whole, got)
		}
	}
}

func TestPromise94MaskSmallTurned(t *testing.T) {
	for _, table := range sampleTables() {
		positive := uniform(sizeOf(table), false)
		eachPlace(table, func(row int, column int) { positive[row][column] = table[row][column] != 0 })
		for _, k := range smallBelow(table) {
			mask := smallOf(t, table, k)
			if got := smallOf(t, turnedBy(t, table), k); !sameRows(got, turned(mask)) {
				t.Errorf("MaskSmall of TableTurn of %v for %d is %v", table, k, got)
			}
			if k <= 1 && impl.MaskMany(mask) != 0 || k > impl.CellMax && !sameRows(mask, positive) {
				t.Errorf("MaskSmall of %v for %d is %v", table, k, mask)
			}
		}
	}
}

func TestPromise95SumsOfTableOf(t *testing.T) {
	for _, list := range samplePeople() {
		rows, columns := sumsOf(t, tableOf(t, list))
		for code := range impl.Codes {
			if area, job := many(list, asked{code, -1, -1}), many(list, asked{-1, code, -1}); rows[code] != area || columns[code] != job {
				t.Errorf("TableSums of TableOf of %v has %d and %d for the code %d, not %d and %d", list, rows[code], columns[code], code, area, job)
			}
		}
	}
}

func TestPromise96FurtherPersonInTable(t *testing.T) {
	l := &lots{state: 24}
	for _, list := range samplePeople() {
		for range 8 {
			p := l.person()
			more := joined(list, []impl.Person{p})
			if len(list) == impl.PeopleMax {
				if table, ok := impl.TableOf(more); ok || len(table) != 0 {
					t.Errorf("TableOf of %d people is %v, %v", len(more), table, ok)
				}
				continue
			}
			want := tableOf(t, list)
			want[p.Area][p.Job]++
			if got := tableOf(t, more); !sameRows(got, want) {
				t.Errorf("TableOf of %v with %v further is %v", list, p, got)
			}
		}
	}
}

func TestPromise97FoldOfTwoRows(t *testing.T) {
	met := 0
	eachFold(func(table [][]int, a int, b int, folded [][]int) {
		if len(table) != 2 {
			return
		}
		met++
		if _, columns := sumsOf(t, table); !sameRows(folded, [][]int{columns}) {
			t.Errorf("TableFold %d, %d of %v is %v, and the column sums are %v", a, b, table, folded, columns)
		}
	})
	if met < 50 {
		t.Errorf("only %d tables of two rows are folded", met)
	}
}

// TestTablesCounted counts anew: the promises alone would also hold for other numbers.
func TestTablesCounted(t *testing.T) {
	for _, table := range sampleTables() {
		wantRows, wantColumns := rowTotals(table), columnTotals(table)
		if rows, columns := sumsOf(t, table); !slices.Equal(rows, wantRows) || !slices.Equal(columns, wantColumns) {
			t.Errorf("TableSums of %v is %v and %v", table, rows, columns)
		}
		if got := impl.TableTotal(table); got != total(wantRows) {
			t.Errorf("TableTotal of %v is %d", table, got)
		}
		if got := turnedBy(t, table); !sameRows(got, turned(table)) {
			t.Errorf("TableTurn of %v is %v", table, got)
		}
		for _, k := range smallBelow(table) {
			if got := smallOf(t, table, k); !sameRows(got, ownSmall(table, k)) {
				t.Errorf("MaskSmall of %v for %d is %v", table, k, got)
			}
		}
	}
}

// TestTableFoldCounted tells the rows that can be folded from all others, those that do not exist, are equal or exchanged among them.
func TestTableFoldCounted(t *testing.T) {
	refused, done := 0, 0
	for _, table := range sampleTables() {
		for _, p := range rowPairs() {
			want, wantOk := ownFold(table, p[0], p[1])
			got, ok := impl.TableFold(table, p[0], p[1])
			if ok != wantOk || !sameRows(got, want) {
				t.Errorf("TableFold %v of %v is %v, %v, not %v, %v", p, table, got, ok, want, wantOk)
			}
			if ok {
				done++
			} else if 0 <= p[0] && p[0] < p[1] && p[1] < len(table) {
				refused++
			}
		}
	}
	if done < 1000 || refused < 50 {
		t.Errorf("%d folded, and %d refused because of their sums", done, refused)
	}
}

// TestTableFoldToCellMax folds rows whose sum in one column is CellMax, and one more.
func TestTableFoldToCellMax(t *testing.T) {
	for _, s := range everySize() {
		for _, p := range rowPairs() {
			a, b := p[0], p[1]
			if a < 0 || a >= b || b >= s.rows {
				continue
			}
			for column := range s.columns {
				for _, v := range []int{0, 1, impl.CellMax / 2, impl.CellMax - 1, impl.CellMax} {
					table := withCell(withCell(uniform(s, 3), a, column, v), b, column, impl.CellMax-v)
					folded, ok := impl.TableFold(table, a, b)
					if want, _ := ownFold(table, a, b); !ok || folded[a][column] != impl.CellMax || !sameRows(folded, want) {
						t.Errorf("TableFold %v of %v is %v, %v", p, table, folded, ok)
					}
					for _, row := range p {
						table := withCell(table, row, column, table[row][column]+1)
						if folded, ok := impl.TableFold(table, a, b); ok || len(folded) != 0 {
							t.Errorf("TableFold %v of %v is %v, %v", p, table, folded, ok)
						}
					}
				}
			}
		}
	}
}

func TestTablesByHand(t *testing.T) {
	for _, c := range []struct {
		table         [][]int
		rows, columns []int
		total         int
		turned        [][]int
	}{
		{[][]int{{0}}, []int{0}, []int{0}, 0, [][]int{{0}}},
		{[][]int{{99}}, []int{99}, []int{99}, 99, [][]int{{99}}},
		{[][]int{{4, 0, 99, 1}}, []int{104}, []int{4, 0, 99, 1}, 104, [][]int{{4}, {0}, {99}, {1}}},
		{[][]int{{4}, {0}, {99}, {1}}, []int{4, 0, 99, 1}, []int{104}, 104, [][]int{{4, 0, 99, 1}}},
		{[][]int{{1, 2}, {3, 0}}, []int{3, 3}, []int{4, 2}, 6, [][]int{{1, 3}, {2, 0}}},
		{[][]int{{1, 2, 3}, {40, 50, 60}}, []int{6, 150}, []int{41, 52, 63}, 156, [][]int{{1, 40}, {2, 50}, {3, 60}}},
		{[][]int{{1, 2}, {3, 0}, {5, 4}}, []int{3, 3, 9}, []int{9, 6}, 15, [][]int{{1, 3, 5}, {2, 0, 4}}},
		{uniform(size{4, 4}, 99), []int{396, 396, 396, 396}, []int{396, 396, 396, 396}, 1584, uniform(size{4, 4}, 99)},
	} {
		rows, columns := sumsOf(t, c.table)
		if !slices.Equal(rows, c.rows) || !slices.Equal(columns, c.columns) || impl.TableTotal(c.table) != c.total {
			t.Errorf("%v has the sums %v and %v, and the total %d", c.table, rows, columns, impl.TableTotal(c.table))
		}
		if got := turnedBy(t, c.table); !sameRows(got, c.turned) {
			t.Errorf("TableTurn of %v is %v", c.table, got)
		}
	}
}

func TestTableFoldByHand(t *testing.T) {
	table := [][]int{{1, 2, 3}, {10, 20, 30}, {0, 0, 99}, {50, 60, 69}}
	for _, c := range []struct {
		a, b int
		want [][]int
	}{
		{0, 1, [][]int{{11, 22, 33}, {0, 0, 99}, {50, 60, 69}}},
		{0, 2, nil},
		{0, 3, [][]int{{51, 62, 72}, {10, 20, 30}, {0, 0, 99}}},
		{1, 2, nil},
		{1, 3, [][]int{{1, 2, 3}, {60, 80, 99}, {0, 0, 99}}},
		{2, 3, nil},
		{1, 0, nil},
		{3, 0, nil},
		{0, 0, nil},
		{3, 3, nil},
		{3, 4, nil},
		{4, 5, nil},
		{-1, 0, nil},
		{-2, -1, nil},
		{-1, 4, nil},
	} {
		if got, ok := impl.TableFold(table, c.a, c.b); ok != (c.want != nil) || !sameRows(got, c.want) {
			t.Errorf("TableFold %d, %d is %v, %v", c.a, c.b, got, ok)
		}
	}
	if got, ok := impl.TableFold(table[:2], 0, 1); !ok || !sameRows(got, [][]int{{11, 22, 33}}) {
		t.Errorf("TableFold of the only two rows is %v, %v", got, ok)
	}
	for _, p := range rowPairs() {
		if got, ok := impl.TableFold(table[:1], p[0], p[1]); ok || len(got) != 0 {
			t.Errorf("TableFold %v of one row is %v, %v", p, got, ok)
		}
	}
}

func TestMaskSmallByHand(t *testing.T) {
	table := [][]int{{0, 1, 2}, {3, 98, 99}}
	for k, want := range map[int][][]bool{
		math.MinInt: uniform(size{2, 3}, false),
		-1:          uniform(size{2, 3}, false),
		0:           uniform(size{2, 3}, false),
		1:           uniform(size{2, 3}, false),
		2:           {{false, true, false}, {false, false, false}},
		3:           {{false, true, true}, {false, false, false}},
		4:           {{false, true, true}, {true, false, false}},
		98:          {{false, true, true}, {true, false, false}},
		99:          {{false, true, true}, {true, true, false}},
		100:         {{false, true, true}, {true, true, true}},
		101:         {{false, true, true}, {true, true, true}},
		math.MaxInt: {{false, true, true}, {true, true, true}},
	} {
		got := smallOf(t, table, k)
		if !sameRows(got, want) || impl.MaskMany(got) != manySet(want) {
			t.Errorf("MaskSmall for %d is %v with %d flags", k, got, impl.MaskMany(got))
		}
	}
}

// TestTableOfByHand has people of whom nobody, one or everybody is in a cell; neither the sex nor the pay matters.
func TestTableOfByHand(t *testing.T) {
	zeros := uniform(size{4, 4}, 0)
	for _, nobody := range [][]impl.Person{nil, {}} {
		if got := tableOf(t, nobody); !sameRows(got, zeros) {
			t.Errorf("TableOf of nobody is %v", got)
		}
	}
	eachPlace(zeros, func(area int, job int) {
		for _, p := range []impl.Person{{Area: area, Job: job}, {Area: area, Job: job, Sex: 1, Pay: impl.PayMax}} {
			for _, n := range []int{1, 2, impl.PeopleMax} {
				if got := tableOf(t, samePeople(p, n)); !sameRows(got, withCell(zeros, area, job, n)) {
					t.Errorf("TableOf of %d times %v is %v", n, p, got)
				}
			}
		}
	})
	mixed := []impl.Person{{Area: 3, Job: 1}, {Area: 3, Job: 1, Sex: 1}, {Area: 1, Job: 3, Pay: 7}, {Area: 0, Job: 2}, {Area: 3, Job: 1, Sex: 1, Pay: 999}}
	if got := tableOf(t, mixed); !sameRows(got, [][]int{{0, 0, 1, 0}, {0, 0, 0, 1}, {0, 0, 0, 0}, {0, 3, 0, 0}}) {
		t.Errorf("TableOf of %v is %v", mixed, got)
	}
}

// TestTableOfEverybodyElsewhere has PeopleMax people of whom all but one are in one cell.
func TestTableOfEverybodyElsewhere(t *testing.T) {
	list := joined(samePeople(impl.Person{Area: 2, Job: 3}, impl.PeopleMax-1), []impl.Person{{Area: 3, Job: 2}})
	want := withCell(withCell(uniform(size{4, 4}, 0), 2, 3, impl.PeopleMax-1), 3, 2, 1)
	if got := tableOf(t, list); !sameRows(got, want) {
		t.Errorf("TableOf is %v", got)
	}
}

// TestLengthsOfTables tells the lengths that a table can have from all others, rows of different lengths among them.
func TestLengthsOfTables(t *testing.T) {
	valid := 0
	for _, lists := range lengthLists[int]() {
		want := rightLengths(lists)
		if impl.TableValid(lists) != want {
			t.Errorf("TableValid of %v is %v", lists, !want)
		}
		if want {
			valid++
		}
	}
	if valid != impl.SideMax*impl.SideMax {
		t.Errorf("%d lists have the lengths of a table", valid)
	}
}

// TestLengthsOfMasks tells the lengths that a mask of a table can have from all others, those of masks of other tables among them.
func TestLengthsOfMasks(t *testing.T) {
	masks := lengthLists[bool]()
	for _, s := range everySize() {
		table := numbered(s)
		for _, mask := range masks {
			want := rightLengths(mask) && sizeOf(mask) == s
			if impl.MaskValid(table, mask) != want {
				t.Errorf("MaskValid of %v and %v is %v", table, mask, !want)
			}
		}
	}
}

// TestLengthsOfNoTables has masks with just the lengths of lists that are no table.
func TestLengthsOfNoTables(t *testing.T) {
	for _, lists := range lengthLists[int]() {
		mask := make([][]bool, len(lists))
		for row := range lists {
			mask[row] = make([]bool, len(lists[row]))
		}
		if want := rightLengths(lists); impl.MaskValid(lists, mask) != want {
			t.Errorf("MaskValid of %v and %v is %v", lists, mask, !want)
		}
	}
}

// TestMaskOfEachTable has the flags of a mask and the numbers of a table not matter.
func TestMaskOfEachTable(t *testing.T) {
	for _, table := range sampleTables() {
		s := sizeOf(table)
		for _, mask := range sampleMasks(s) {
			if !impl.MaskValid(table, mask) {
				t.Fatalf("%v is no mask of %v", mask, table)
			}
			if impl.MaskValid(table, turned(mask)) != (s.rows == s.columns) {
				t.Errorf("MaskValid of %v and the mask turned is %v", table, s.rows != s.columns)
			}
		}
	}
}

func TestMaskManyCounted(t *testing.T) {
	masks := anyMasks()
	for _, s := range everySize() {
		masks = append(masks, sampleMasks(s)...)
	}
	for _, mask := range masks {
		if got, want := impl.MaskMany(mask), manySet(mask); got != want {
			t.Errorf("MaskMany of %v is %d, not %d", mask, got, want)
		}
	}
	if got := impl.MaskMany(uniform(size{300, 200}, true)); got != 60000 {
		t.Errorf("MaskMany of 60000 flags is %d", got)
	}
}

func TestInvalidTables(t *testing.T) {
	for _, table := range invalidTables() {
		if impl.TableValid(table) || impl.TableTotal(table) != -1 {
			t.Errorf("TableValid of %v is %v, and TableTotal %d", table, impl.TableValid(table), impl.TableTotal(table))
		}
		if rows, columns, ok := impl.TableSums(table); ok || len(rows) != 0 || len(columns) != 0 {
			t.Errorf("TableSums of %v is %v, %v, %v", table, rows, columns, ok)
		}
		if out, ok := impl.TableTurn(table); ok || len(out) != 0 {
			t.Errorf("TableTurn of %v is %v, %v", table, out, ok)
		}
		for _, p := range [][2]int{{0, 1}, {0, 2}, {1, 2}, {2, 3}, {0, 3}, {-1, 0}, {0, 0}, {1, 0}, {0, len(table) - 1}, {3, 4}} {
			if out, ok := impl.TableFold(table, p[0], p[1]); ok || len(out) != 0 {
				t.Errorf("TableFold %v of %v is %v, %v", p, table, out, ok)
			}
		}
		for _, k := range []int{math.MinInt, 0, 1, 5, impl.CellMax, impl.CellMax + 1, math.MaxInt} {
			if mask, ok := impl.MaskSmall(table, k); ok || len(mask) != 0 {
				t.Errorf("MaskSmall of %v for %d is %v, %v", table, k, mask, ok)
			}
		}
	}
}

// TestMasksOfInvalidTables has masks that would fit if the table were one.
func TestMasksOfInvalidTables(t *testing.T) {
	for _, table := range invalidTables() {
		mask := make([][]bool, len(table))
		for row := range table {
			mask[row] = make([]bool, len(table[row]))
		}
		for _, other := range [][][]bool{mask, nil, {}, {{}}, {{true}}, uniform(size{4, 4}, false), uniform(size{2, 2}, true)} {
			if impl.MaskValid(table, other) {
				t.Errorf("%v is a mask of %v", other, table)
			}
		}
	}
}

func TestInvalidMasks(t *testing.T) {
	masks := slices.DeleteFunc(anyMasks(), rightLengths[bool])[:100]
	for _, table := range sampleTables() {
		s := sizeOf(table)
		others := [][][]bool{
			uniform(size{s.rows + 1, s.columns}, true), uniform(size{s.rows - 1, s.columns}, true),
			uniform(size{s.rows, s.columns + 1}, true), uniform(size{s.rows, s.columns - 1}, true),
			withRow(uniform(s, false), s.rows-1, make([]bool, s.columns+1)), withRow(uniform(s, false), s.rows-1, make([]bool, s.columns-1)),
			uniform(size{1, s.rows*s.columns + 1}, true), make([][]bool, s.rows),
		}
		if s.rows > 1 {
			others = append(others, uniform(size{1, s.rows * s.columns}, false))
		}
		for _, mask := range append(others, masks...) {
			if impl.MaskValid(table, mask) {
				t.Errorf("%v is a mask of %v", mask, table)
			}
		}
	}
}

func TestTableOfInvalidPeople(t *testing.T) {
	for _, list := range invalidPeople() {
		if table, ok := impl.TableOf(list); ok || len(table) != 0 {
			t.Errorf("TableOf of %v is %v, %v", list, table, ok)
		}
	}
}

// tableCalls are the functions of a table or a mask, each called just once, as a change that is made twice may undo itself.
func tableCalls() []func(table [][]int, mask [][]bool) {
	return []func(table [][]int, mask [][]bool){
		func(table [][]int, _ [][]bool) { impl.TableValid(table) },
		func(table [][]int, _ [][]bool) { impl.TableSums(table) },
		func(table [][]int, _ [][]bool) { impl.TableTotal(table) },
		func(table [][]int, _ [][]bool) { impl.TableTurn(table) },
		func(table [][]int, _ [][]bool) { impl.TableFold(table, 0, 1) },
		func(table [][]int, _ [][]bool) { impl.TableFold(table, 0, len(table)-1) },
		func(table [][]int, _ [][]bool) { impl.TableFold(table, 1, 2) },
		func(table [][]int, _ [][]bool) { impl.TableFold(table, 1, 0) },
		func(table [][]int, mask [][]bool) { impl.MaskValid(table, mask) },
		func(_ [][]int, mask [][]bool) { impl.MaskMany(mask) },
		func(table [][]int, _ [][]bool) { impl.MaskSmall(table, 4) },
		func(table [][]int, _ [][]bool) { impl.MaskSmall(table, impl.CellMax+1) },
	}
}

// TestTableArgumentsStay looks at the room behind the lists, too: a function must not write there either.
func TestTableArgumentsStay(t *testing.T) {
	l := &lots{state: 25}
	for _, call := range tableCalls() {
		for _, table := range sampleTables() {
			expectTableStays(t, table, l.flags(sizeOf(table), 2), call)
		}
		for i, table := range invalidTables() {
			if i%5 == 0 {
				expectTableStays(t, table, l.flags(size{3, 2}, 2), call)
			}
		}
	}
	for i, mask := range anyMasks() {
		for _, call := range tableCalls() {
			expectTableStays(t, numbered(everySize()[i%16]), mask, call)
		}
	}
}

func TestTableOfArgumentsStay(t *testing.T) {
	for _, list := range slices.Concat(samplePeople(), invalidPeople()) {
		expectStays(t, alike(list), func(g grouping) { impl.TableOf(g.list) })
	}
}

func TestTableResultsAreNewMemory(t *testing.T) {
	for _, table := range sampleTables() {
		expectNewRows(t, table, tableSums, -7)
		expectNewRows(t, table, impl.TableTurn, -7)
		for _, k := range []int{0, 5, impl.CellMax + 1} {
			expectNewRows(t, table, func(x [][]int) ([][]bool, bool) { return impl.MaskSmall(x, k) }, true, false)
		}
	}
	eachFold(func(table [][]int, a int, b int, _ [][]int) {
		expectNewRows(t, table, func(x [][]int) ([][]int, bool) { return impl.TableFold(x, a, b) }, -7)
	})
	for _, list := range samplePeople() {
		expectNewRows(t, nil, func([][]int) ([][]int, bool) { return impl.TableOf(list) }, -7)
	}
}

// TestTablesKeepNothing overwrites the arguments of calls and expects that later calls with equal ones tell the same.
func TestTablesKeepNothing(t *testing.T) {
	for _, table := range sampleTables() {
		used, mask := copied(table), uniform(sizeOf(table), true)
		rows, columns := sumsOf(t, used)
		out, small := turnedBy(t, used), smallOf(t, used, 5)
		folded, fine := impl.TableFold(used, 0, 1)
		whole, set, valid := impl.TableTotal(used), impl.MaskMany(mask), impl.MaskValid(used, mask)
		eachPlace(used, func(row int, column int) { used[row][column], mask[row][column] = -row-1, false })
		if impl.TableValid(used) || impl.MaskValid(used, mask) || impl.TableTotal(used) != -1 || impl.MaskMany(mask) != 0 {
			t.Fatalf("%v is valid, or %v has flags", used, mask)
		}
		nowRows, nowColumns := sumsOf(t, table)
		nowFolded, nowFine := impl.TableFold(table, 0, 1)
		if !slices.Equal(nowRows, rows) || !slices.Equal(nowColumns, columns) || nowFine != fine || !sameRows(nowFolded, folded) {
			t.Errorf("TableSums or TableFold of %v have changed", table)
		}
		if !sameRows(turnedBy(t, table), out) || !sameRows(smallOf(t, table, 5), small) || impl.TableTotal(table) != whole {
			t.Errorf("TableTurn, MaskSmall or TableTotal of %v have changed", table)
		}
		if all := uniform(sizeOf(table), true); impl.MaskMany(all) != set || impl.MaskValid(table, all) != valid || !valid {
			t.Errorf("MaskMany or MaskValid of %v have changed", table)
		}
	}
	for _, list := range samplePeople() {
		used := joined(list)
		table := tableOf(t, used)
		for k := range used {
			used[k] = impl.Person{Area: k % impl.Codes, Job: k % 3}
		}
		impl.TableOf(used)
		if got := tableOf(t, list); !sameRows(got, table) {
			t.Errorf("TableOf of %v has changed from %v to %v", list, table, got)
		}
	}
}
