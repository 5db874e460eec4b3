package tests

import (
	"math"
	"slices"
	"testing"

	"loop.example/disclosurecontrol/impl"
)

// TestDifferenceHelpers keeps the tests below from passing because they never meet what they are about.
func TestDifferenceHelpers(t *testing.T) {
	met := map[string]int{}
	count := func(name string, is bool) {
		if is {
			met[name]++
		}
	}
	comparings := sampleComparings()
	for _, c := range comparings {
		s, out := sizeOf(c.a), slices.Concat(addedUp(c.a, changed(c.b, func(v int) int { return -v }))...)
		count("one row", s.rows == 1 && s.columns == impl.SideMax && total(out) > 0)
		count("one column", s.rows == impl.SideMax && s.columns == 1 && total(out) > 0)
		count("all sides", s == size{impl.SideMax, impl.SideMax} && total(out) > 0)
		count("itself", &c.a[0] == &c.b[0])
		count("equal in other memory", total(out) == 0 && &c.a[0] != &c.b[0])
		count("less by 1", total(out) == 1)
		count("less by CellMax", slices.Max(out) == impl.CellMax)
		count("less in all cells", slices.Min(out) > 0)
	}
	refused := refusedComparings()
	for _, c := range refused {
		if sizeOf(c.a) != sizeOf(c.b) {
			count("another size", true)
			count("turned", sizeOf(c.a) == sizeOf(turned(c.b)))
			continue
		}
		worse := slices.DeleteFunc(slices.Concat(addedUp(c.b, changed(c.a, func(v int) int { return -v }))...), func(v int) bool { return v <= 0 })
		count("greater by 1 in one cell", slices.Equal(worse, []int{1}))
		count("greater by CellMax in one cell", slices.Equal(worse, []int{impl.CellMax}))
	}
	if len(met) != 12 || len(comparings) < 5000 || len(refused) < 5000 {
		t.Errorf("only met %v, and %d and %d samples", met, len(comparings), len(refused))
	}
	for name, n := range met {
		if n < 20 {
			t.Errorf("%q is only met %d times", name, n)
		}
	}
}

// TestMatchHelpers keeps the tests below from passing because they never meet what they are about.
func TestMatchHelpers(t *testing.T) {
	met := map[string]int{}
	count := func(name string, is bool) {
		if is {
			met[name]++
		}
	}
	matchings := sampleMatchings()
	for _, m := range matchings {
		if !impl.PeopleValid(m.a) || !impl.PeopleValid(m.b) {
			t.Fatalf("%v are no people", m)
		}
		same, holds := m.ownSame(), m.ownHolds()
		count("no first people", len(m.a) == 0 && len(m.b) > 0)
		count("no second people", len(m.a) > 0 && len(m.b) == 0)
		count("no people", len(m.a) == 0 && len(m.b) == 0)
		count("PeopleMax people, all the same", same == impl.PeopleMax)
		count("PeopleMax people, some the same", len(m.a) == impl.PeopleMax && len(m.b) == impl.PeopleMax && same > 0 && same < impl.PeopleMax)
		count("PeopleMax people, none the same", len(m.a) == impl.PeopleMax && len(m.b) == impl.PeopleMax && same == 0)
		count("another order", same == len(m.a) && same == len(m.b) && !slices.Equal(m.a, m.b))
		count("one missing", holds && len(m.b) == len(m.a)-1)
		count("one further", m.exchanged().ownHolds() && len(m.b) == len(m.a)+1)
		count("as many, but one is another", !holds && len(m.a) == len(m.b) && same == len(m.a)-1)
		twice := func(list []impl.Person, other []impl.Person, times int) bool {
			return slices.ContainsFunc(list, func(p impl.Person) bool { return ownTimes(list, p) >= 2 && ownTimes(other, p) == times })
		}
		count("twice in the first people, not in the second ones", twice(m.a, m.b, 0))
		count("twice in the first people, once in the second ones", holds && twice(m.a, m.b, 1))
		count("twice in both", holds && twice(m.a, m.b, 2))
		count("twice in the second people, once in the first ones", twice(m.b, m.a, 1))
		count("twice in the second people, not in the first ones", twice(m.b, m.a, 0))
		count("only more often", !holds && !slices.ContainsFunc(m.b, func(p impl.Person) bool { return ownTimes(m.a, p) == 0 }))
	}
	if len(met) != 16 || len(matchings) < 5000 {
		t.Errorf("only met %d: %v, and %d samples", len(met), met, len(matchings))
	}
	for name, n := range met {
		if n < 5 && name != "no people" {
			t.Errorf("%q is only met %d times", name, n)
		}
	}
}

func TestPromise158TogetherTheFirst(t *testing.T) {
	eachDifference(t, func(c comparing, out [][]int) {
		if sizeOf(out) != sizeOf(c.a) {
			t.Fatalf("DiffTable of %v is %v", c, out)
		}
		eachPlace(c.a, func(row int, column int) {
			if out[row][column]+c.b[row][column] != c.a[row][column] {
				t.Errorf("DiffTable of %v is %v", c, out)
			}
		})
		if impl.TableTotal(out)+impl.TableTotal(c.b) != impl.TableTotal(c.a) {
			t.Errorf("DiffTable of %v has the total %d", c, impl.TableTotal(out))
		}
	})
	for _, table := range sampleTables() {
		for _, c := range []comparing{{table, table}, {table, copied(table)}} {
			if out, ok := c.difference(); !ok || !sameRows(out, uniform(sizeOf(table), 0)) {
				t.Errorf("DiffTable of %v and itself is %v, %v", table, out, ok)
			}
		}
	}
}

func TestPromise159DifferenceOfDifference(t *testing.T) {
	eachDifference(t, func(c comparing, out [][]int) {
		if again, ok := impl.DiffTable(c.a, out); !ok || !sameRows(again, c.b) {
			t.Errorf("DiffTable of %v and %v is %v, %v, not %v", c.a, out, again, ok, c.b)
		}
	})
}

func TestPromise160RiskIsSmall(t *testing.T) {
	eachDifference(t, func(c comparing, out [][]int) {
		before := 0
		for _, k := range smallBelow(out) {
			got := c.risk(k)
			if want := impl.MaskMany(smallOf(t, out, k)); got != want || got < before {
				t.Errorf("DiffRisk of %v for %d is %d, not %d, and for a lesser number %d", c, k, got, want, before)
			}
			before = got
		}
	})
}

func TestPromise161TablesOfPart(t *testing.T) {
	eachPart(t, func(m matching) {
		out, ok := impl.DiffTable(tableOf(t, m.a), tableOf(t, m.b))
		if !ok || impl.TableTotal(out) != len(m.a)-len(m.b) {
			t.Errorf("DiffTable of both TableOf of %v is %v, %v", m, out, ok)
		}
	})
}

func TestPromise162WithoutOne(t *testing.T) {
	for _, list := range firstPeople() {
		for k := range list {
			rest, ok := impl.PeopleWithout(list, k)
			if !ok || !impl.DiffPeople(list, rest) {
				t.Fatalf("DiffPeople of %v and PeopleWithout %d, %v, %v, does not hold", list, k, rest, ok)
			}
			if got := impl.DiffRisk(tableOf(t, list), tableOf(t, rest), 2); got != 1 {
				t.Errorf("DiffRisk of TableOf of %v and of PeopleWithout %d for 2 is %d", list, k, got)
			}
		}
	}
}

func TestPromise163FirstPersonsMoved(t *testing.T) {
	eachPart(t, func(m matching) {
		for _, i := range cuts(m.a) {
			for _, j := range cuts(m.b) {
				moved := matching{joined(m.a[i:], m.a[:i]), joined(m.b[j:], m.b[:j])}
				if !moved.holds() {
					t.Errorf("DiffPeople of %v does not hold with %d and %d persons moved", m, i, j)
				}
			}
		}
	})
}

func TestPromise164SameExchanged(t *testing.T) {
	for _, m := range sampleMatchings() {
		same := m.same()
		if same < 0 || same != m.exchanged().same() || same > len(m.a) || same > len(m.b) {
			t.Errorf("DiffSame of %v is %d, and of both exchanged %d", m, same, m.exchanged().same())
		}
		for _, each := range []matching{m, m.exchanged()} {
			if each.holds() != (same == len(each.b)) {
				t.Errorf("DiffPeople of %v is %v, and DiffSame %d", each, each.holds(), same)
			}
		}
	}
}

func TestPromise165TableOfParts(t *testing.T) {
	for _, list := range firstPeople() {
		want := tableOf(t, list)
		for n := range len(list) + 1 {
			if got := tableOf(t, joined(list[n:], list[:n])); !sameRows(got, want) {
				t.Errorf("TableOf of %v with %d persons moved is %v", list, n, got)
			}
			if got := addedUp(tableOf(t, list[:n]), tableOf(t, list[n:])); !sameRows(got, want) {
				t.Errorf("TableOf of %d persons of %v and of the others are %v together", n, list, got)
			}
		}
	}
}

func TestPromise166Turned(t *testing.T) {
	eachDifference(t, func(c comparing, out [][]int) {
		flipped := comparing{turnedBy(t, c.a), turnedBy(t, c.b)}
		if got, ok := flipped.difference(); !ok || !sameRows(got, turnedBy(t, out)) {
			t.Errorf("DiffTable of both TableTurn of %v is %v, %v", c, got, ok)
		}
		for _, k := range smallBelow(out) {
			if got := flipped.risk(k); got != c.risk(k) {
				t.Errorf("DiffRisk of both TableTurn of %v for %d is %d, not %d", c, k, got, c.risk(k))
			}
		}
	})
}

func TestPromise167Folded(t *testing.T) {
	met := 0
	eachDifference(t, func(c comparing, out [][]int) {
		a, okA := impl.TableFold(c.a, 0, 1)
		b, okB := impl.TableFold(c.b, 0, 1)
		if !okA || !okB {
			return
		}
		met++
		want, wantOk := impl.TableFold(out, 0, 1)
		if got, ok := impl.DiffTable(a, b); !ok || !wantOk || !sameRows(got, want) {
			t.Errorf("DiffTable of TableFold of %v is %v, %v, and TableFold of DiffTable %v, %v", c, got, ok, want, wantOk)
		}
	})
	if met < 1000 {
		t.Errorf("only %d tables are folded", met)
	}
}

func TestPromise168NoRisk(t *testing.T) {
	eachDifference(t, func(c comparing, out [][]int) {
		for _, k := range smallBelow(out) {
			if itself := (comparing{c.a, c.a}).risk(k); itself != 0 {
				t.Errorf("DiffRisk of %v and itself for %d is %d", c.a, k, itself)
			}
			risk := c.risk(k)
			if risk < 0 || k <= 1 && risk != 0 || risk > impl.TableTotal(out) {
				t.Errorf("DiffRisk of %v for %d is %d, and the total of DiffTable %d", c, k, risk, impl.TableTotal(out))
			}
		}
	})
}

func TestPromise169OneAddedToBoth(t *testing.T) {
	met := 0
	for _, m := range sampleMatchings() {
		if len(m.a) >= impl.PeopleMax || len(m.b) >= impl.PeopleMax {
			continue
		}
		want := m.same() + 1
		for k, p := range m.a {
			// Each person stands behind, and some of them at the front, too.
			one := []impl.Person{p}
			added := []matching{{joined(m.a, one), joined(m.b, one)}}
			if k%3 == 0 {
				added = append(added, matching{joined(one, m.a), joined(m.b, one)}, matching{joined(m.a, one), joined(one, m.b)})
			}
			for _, more := range added {
				met++
				if got := more.same(); got != want {
					t.Errorf("DiffSame of %v is %d, not %d", more, got, want)
				}
			}
		}
	}
	if met < 10000 {
		t.Errorf("only %d persons are added", met)
	}
}

func TestPromise170SumsOfDifference(t *testing.T) {
	eachDifference(t, func(c comparing, out [][]int) {
		rows, columns := sumsOf(t, out)
		rowsA, columnsA := sumsOf(t, c.a)
		rowsB, columnsB := sumsOf(t, c.b)
		want := addedUp([][]int{rows}, [][]int{rowsB})
		wantColumns := addedUp([][]int{columns}, [][]int{columnsB})
		if !slices.Equal(want[0], rowsA) || !slices.Equal(wantColumns[0], columnsA) {
			t.Errorf("DiffTable of %v has the sums %v and %v", c, rows, columns)
		}
	})
}

func TestPromise171PeopleAndTheirFirst(t *testing.T) {
	for _, list := range firstPeople() {
		if !impl.DiffPeople(list, list) || !impl.DiffPeople(list, slices.Clone(list)) {
			t.Errorf("DiffPeople of %v and themselves does not hold", list)
		}
		for n := range list {
			if !impl.DiffPeople(list, list[:n]) || impl.DiffPeople(list[:n], list) {
				t.Errorf("DiffPeople of %v and the first %d is %v, and exchanged %v", list, n, impl.DiffPeople(list, list[:n]), impl.DiffPeople(list[:n], list))
			}
		}
	}
}

// TestDifferencesCounted counts anew: the promises alone would also hold for other numbers.
func TestDifferencesCounted(t *testing.T) {
	for _, c := range slices.Concat(sampleComparings(), refusedComparings()) {
		c.expectDifference(t, smallBelow(c.a))
		c.exchanged().expectDifference(t, []int{math.MinInt, 0, 2, 5, math.MaxInt})
	}
}

// TestSmallDifferences takes all pairs of small tables of a size, and of tables of one cell all pairs at all.
func TestSmallDifferences(t *testing.T) {
	done, refused := 0, 0
	for _, small := range []struct {
		size
		most int
	}{
		{size{1, 1}, impl.CellMax}, {size{1, 2}, 6}, {size{2, 1}, 6}, {size{1, 4}, 2}, {size{4, 1}, 2}, {size{2, 2}, 2}, {size{2, 3}, 1}, {size{3, 2}, 1},
	} {
		var tables [][][]int
		everySmallTable(small.size, small.most, func(table [][]int) { tables = append(tables, copied(table)) })
		for _, a := range tables {
			for _, b := range tables {
				c := comparing{a, b}
				c.expectDifference(t, []int{-1, 0, 1, 2, 3})
				if _, ok := c.ownDifference(); ok {
					done++
				} else {
					refused++
				}
			}
		}
	}
	if done < 5000 || refused < 5000 {
		t.Errorf("only %d pairs of tables differ, and %d are refused", done, refused)
	}
}

func TestDifferencesByHand(t *testing.T) {
	for _, c := range []struct {
		comparing
		want  [][]int
		risks map[int]int
	}{
		{comparing{[][]int{{5, 2}, {3, 9}}, [][]int{{4, 2}, {0, 9}}}, [][]int{{1, 0}, {3, 0}}, map[int]int{-1: 0, 0: 0, 1: 0, 2: 1, 3: 1, 4: 2, 100: 2}},
		{comparing{[][]int{{99, 99, 99}}, [][]int{{0, 1, 99}}}, [][]int{{99, 98, 0}}, map[int]int{2: 0, 98: 0, 99: 1, 100: 2, math.MaxInt: 2}},
		{comparing{[][]int{{7}, {0}, {2}, {1}}, [][]int{{5}, {0}, {2}, {0}}}, [][]int{{2}, {0}, {0}, {1}}, map[int]int{math.MinInt: 0, 2: 1, 3: 2}},
		{comparing{[][]int{{0}}, [][]int{{0}}}, [][]int{{0}}, map[int]int{0: 0, 1: 0, 2: 0, math.MaxInt: 0}},
		{comparing{[][]int{{99}}, [][]int{{0}}}, [][]int{{99}}, map[int]int{99: 0, 100: 1}},
		{comparing{[][]int{{0}}, [][]int{{1}}}, nil, map[int]int{0: -1, 2: -1}},
		{comparing{[][]int{{9, 9}, {9, 8}}, [][]int{{0, 0}, {0, 9}}}, nil, map[int]int{math.MinInt: -1, 1: -1, 100: -1}},
		{comparing{[][]int{{1, 2}}, [][]int{{1}, {2}}}, nil, map[int]int{2: -1}},
		{comparing{[][]int{{1, 2}, {3, 4}}, [][]int{{1, 2}}}, nil, map[int]int{2: -1}},
		{comparing{[][]int{{1, 2}}, [][]int{{1, 2}, {0, 0}}}, nil, map[int]int{2: -1}},
		{comparing{[][]int{{1, 2, 3}}, [][]int{{1, 2}}}, nil, map[int]int{2: -1}},
	} {
		if got, ok := c.difference(); ok != (c.want != nil) || !sameRows(got, c.want) {
			t.Errorf("DiffTable of %v is %v, %v", c.comparing, got, ok)
		}
		for k, want := range c.risks {
			if got := c.risk(k); got != want {
				t.Errorf("DiffRisk of %v for %d is %d", c.comparing, k, got)
			}
		}
	}
}

// TestMatchesCounted counts anew: the promises alone would also hold for other numbers.
func TestMatchesCounted(t *testing.T) {
	for _, m := range sampleMatchings() {
		m.expectMatch(t)
		m.exchanged().expectMatch(t)
	}
}

// TestSmallMatches takes all pairs of short lists of two persons who differ in just one field, and of persons who each differ from one in another field.
func TestSmallMatches(t *testing.T) {
	p := impl.Person{Area: 1, Job: 2, Sex: 0, Pay: 300}
	near := nearPersons(p)
	lists := [][][]impl.Person{everyPeople(append(near, p), 3)}
	for _, other := range near {
		lists = append(lists, everyPeople([]impl.Person{p, other}, 5))
	}
	for _, people := range lists {
		for _, a := range people {
			for _, b := range people {
				matching{a, b}.expectMatch(t)
			}
		}
	}
}

func TestMatchesByHand(t *testing.T) {
	x, y, z := impl.Person{Area: 1, Pay: 5}, impl.Person{Area: 2, Pay: 5}, impl.Person{Area: 1, Pay: 6}
	for _, c := range []struct {
		matching
		same  int
		holds bool
	}{
		{matching{nil, nil}, 0, true},
		{matching{[]impl.Person{}, nil}, 0, true},
		{matching{[]impl.Person{x}, nil}, 0, true},
		{matching{nil, []impl.Person{x}}, 0, false},
		{matching{[]impl.Person{x}, []impl.Person{x}}, 1, true},
		{matching{[]impl.Person{x}, []impl.Person{z}}, 0, false},
		{matching{[]impl.Person{x, y, x}, []impl.Person{x, x}}, 2, true},
		{matching{[]impl.Person{x, y, x}, []impl.Person{y, y}}, 1, false},
		{matching{[]impl.Person{x, y, x}, []impl.Person{x}}, 1, true},
		{matching{[]impl.Person{x, y, x}, []impl.Person{z, y}}, 1, false},
		{matching{[]impl.Person{x, y, z}, []impl.Person{z, x, y}}, 3, true},
		{matching{[]impl.Person{x, x, x}, []impl.Person{x, x, x, x}}, 3, false},
		{matching{[]impl.Person{x, x, y, y}, []impl.Person{x, y, y, y}}, 3, false},
		{matching{[]impl.Person{x, x, y}, []impl.Person{x, y, y}}, 2, false},
		{matching{samePeople(x, impl.PeopleMax), samePeople(x, impl.PeopleMax)}, impl.PeopleMax, true},
		{matching{samePeople(x, impl.PeopleMax-1), samePeople(x, impl.PeopleMax)}, impl.PeopleMax - 1, false},
		{matching{samePeople(x, impl.PeopleMax), samePeople(z, impl.PeopleMax)}, 0, false},
	} {
		if c.matching.same() != c.same || c.matching.holds() != c.holds {
			t.Errorf("DiffSame of %v is %d, and DiffPeople %v", c.matching, c.matching.same(), c.matching.holds())
		}
	}
}

// TestLengthsOfDifferences has lists of all lengths with a table, and with zeros of just their lengths.
func TestLengthsOfDifferences(t *testing.T) {
	tables := map[size][][]int{}
	for _, s := range everySize() {
		tables[s] = numbered(s)
	}
	for _, lists := range lengthLists[int]() {
		for s, table := range tables {
			want := rightLengths(lists) && sizeOf(lists) == s
			if out, ok := impl.DiffTable(table, lists); ok != want || want && !sameRows(out, table) || !want && len(out) != 0 {
				t.Errorf("DiffTable of %v and %v is %v, %v", table, lists, out, ok)
			}
			if !want {
				comparing{table, lists}.expectNoDifference(t, []int{2})
				comparing{lists, table}.expectNoDifference(t, []int{2})
			}
		}
		if rightLengths(lists) {
			continue
		}
		comparing{lists, lists}.expectNoDifference(t, []int{2})
		comparing{lists, copied(lists)}.expectNoDifference(t, []int{2})
	}
}

// TestDifferencesOfInvalidTables has lists that are no table as the first, as the second and as both, with differences that would be a table among them.
func TestDifferencesOfInvalidTables(t *testing.T) {
	numbers := []int{math.MinInt, 0, 1, 2, 5, math.MaxInt}
	for _, bad := range invalidTables() {
		others := [][][]int{nil, {}, {{}}, bad, copied(bad), uniform(size{2, 2}, 0), uniform(size{impl.SideMax, impl.SideMax}, impl.CellMax)}
		if len(bad) > 0 && len(bad) <= impl.SideMax && len(bad[0]) > 0 && len(bad[0]) <= impl.SideMax {
			s := sizeOf(bad)
			others = append(others, uniform(s, 0), uniform(s, 1), uniform(s, impl.CellMax))
		}
		if rightLengths(bad) {
			// Each bad number has a cell with a difference in its range.
			others = append(others, changed(bad, func(v int) int { return v - 1 }), changed(bad, func(v int) int { return min(max(v, 0), impl.CellMax) }))
		}
		for _, other := range others {
			comparing{bad, other}.expectNoDifference(t, numbers)
			comparing{other, bad}.expectNoDifference(t, numbers)
		}
	}
}

// TestDifferencesOfExtremes has the least and the greatest integers as cells and as numbers.
func TestDifferencesOfExtremes(t *testing.T) {
	numbers := []int{math.MinInt, math.MinInt + 1, math.MinInt + impl.CellMax, -impl.CellMax, -1, 0, 1, impl.CellMax, impl.CellMax + 1, math.MaxInt - impl.CellMax, math.MaxInt - 1, math.MaxInt}
	for _, v := range numbers {
		for _, w := range numbers {
			for _, s := range everySize() {
				c := comparing{withCell(uniform(s, 5), s.rows-1, s.columns-1, v), withCell(uniform(s, 3), s.rows-1, s.columns-1, w)}
				if impl.TableValid(c.a) && impl.TableValid(c.b) {
					c.expectDifference(t, numbers)
				} else {
					c.expectNoDifference(t, numbers)
				}
			}
		}
	}
}

func TestMatchesOfInvalidPeople(t *testing.T) {
	good := [][]impl.Person{nil, {}, {{}}, {{Area: 1, Job: 2, Sex: 1, Pay: 300}}, samePeople(impl.Person{}, impl.PeopleMax)}
	bad := invalidPeople()
	for i, list := range bad {
		few, other := list[:min(len(list), 3)], bad[(i+1)%len(bad)]
		for _, b := range append(good, list, slices.Clone(list), few, list[1:], other) {
			matching{list, b}.expectNoMatch(t)
			matching{b, list}.expectNoMatch(t)
		}
	}
}

// TestMatchesOfTooManyPeople has lists that would be parts of each other, but for one person too many.
func TestMatchesOfTooManyPeople(t *testing.T) {
	l := &lots{state: 64}
	for _, few := range []int{1, 2, 5, 30} {
		for _, n := range []int{impl.PeopleMax + 1, impl.PeopleMax + 2, impl.PeopleMax * 2, 1000} {
			list := l.repeated(n, few)
			for _, part := range []int{0, 1, impl.PeopleMax, n - 1, n} {
				matching{list, list[:part]}.expectNoMatch(t)
				matching{list[:part], list}.expectNoMatch(t)
			}
		}
		full := l.repeated(impl.PeopleMax, few)
		matching{full, full}.expectMatch(t)
	}
}

// TestDifferenceArgumentsStay looks at the room behind the lists, too: a function must not write there either.
func TestDifferenceArgumentsStay(t *testing.T) {
	comparings := slices.Concat(sampleComparings(), refusedComparings())
	for _, call := range differenceCalls() {
		for i, c := range comparings {
			if i%3 == 0 {
				c.expectStays(t, call)
			}
			if i%9 == 0 {
				expectTableStays(t, c.a, nil, func(table [][]int, _ [][]bool) { call(comparing{table, table}) })
			}
		}
		for i, bad := range invalidTables() {
			if i%5 == 0 {
				comparing{bad, numbered(size{2, 3})}.expectStays(t, call)
				comparing{numbered(size{2, 3}), bad}.expectStays(t, call)
				comparing{bad, bad}.expectStays(t, call)
			}
		}
	}
}

// TestMatchArgumentsStay has lists in the same memory, too.
func TestMatchArgumentsStay(t *testing.T) {
	good := []impl.Person{{Area: 1, Job: 2}, {Area: 2}, {Area: 1, Job: 2}}
	for _, call := range matchCalls() {
		for _, m := range sampleMatchings() {
			m.expectStays(t, call)
		}
		for _, list := range slices.Concat(firstPeople(), invalidPeople()) {
			matching{list, good}.expectStays(t, call)
			matching{good, list}.expectStays(t, call)
			for _, n := range cuts(list) {
				expectStays(t, alike(list), func(g grouping) { call(matching{g.list, g.list[:n]}) })
				expectStays(t, alike(list), func(g grouping) { call(matching{g.list, g.list[n:]}) })
				expectStays(t, alike(list), func(g grouping) { call(matching{g.list[n:], g.list[:n]}) })
			}
		}
	}
}

func TestDifferencesAreNewMemory(t *testing.T) {
	for _, c := range sampleComparings() {
		expectNewRows(t, c.a, func(table [][]int) ([][]int, bool) { return impl.DiffTable(table, c.b) }, -7)
		expectNewRows(t, c.b, func(table [][]int) ([][]int, bool) { return impl.DiffTable(c.a, table) }, -7)
	}
	for _, table := range sampleTables() {
		expectNewRows(t, table, func(table [][]int) ([][]int, bool) { return impl.DiffTable(table, table) }, -7)
		expectNewRows(t, table, func(table [][]int) ([][]int, bool) {
			return impl.DiffTable(table, uniform(sizeOf(table), 0))
		}, -7)
	}
}

// TestDifferencesKeepNothing overwrites the arguments and the results of calls and expects that later calls with equal arguments tell the same.
func TestDifferencesKeepNothing(t *testing.T) {
	for _, c := range sampleComparings() {
		used := comparing{copied(c.a), copied(c.b)}
		out, ok := used.difference()
		risk, want := used.risk(4), copied(out)
		eachPlace(out, func(row int, column int) {
			out[row][column] = 55
			used.a[row][column], used.b[row][column] = (used.a[row][column]+31)%(impl.CellMax+1), (used.b[row][column]+17)%(impl.CellMax+1)
		})
		used.expectDifference(t, []int{4, 20})
		if again, fine := c.difference(); !ok || !fine || !sameRows(again, want) || c.risk(4) != risk {
			t.Errorf("DiffTable of %v has changed from %v to %v", c, want, again)
		}
	}
}

// TestMatchesKeepNothing overwrites the arguments of calls and expects that later calls with equal ones tell the same.
func TestMatchesKeepNothing(t *testing.T) {
	for _, m := range sampleMatchings() {
		used := matching{slices.Clone(m.a), slices.Clone(m.b)}
		holds, same := used.holds(), used.same()
		for k := range used.a {
			used.a[k] = nearPersons(used.a[k])[k%3]
		}
		for k := range used.b {
			used.b[k].Area = k % impl.Codes
		}
		used.expectMatch(t)
		if m.holds() != holds || m.same() != same {
			t.Errorf("DiffPeople or DiffSame of %v has changed", m)
		}
	}
}
