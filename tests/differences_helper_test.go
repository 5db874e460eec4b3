package tests

import (
	"slices"
	"testing"

	"loop.example/disclosurecontrol/impl"
)

// comparing is a first and a second table.
type comparing struct {
	a, b [][]int
}

func (c comparing) difference() ([][]int, bool) {
	return impl.DiffTable(c.a, c.b)
}

func (c comparing) risk(k int) int {
	return impl.DiffRisk(c.a, c.b, k)
}

// exchanged returns both tables, the second one first.
func (c comparing) exchanged() comparing {
	return comparing{c.b, c.a}
}

// ownDifference returns what DiffTable must return for two tables, of equal or different sizes.
func (c comparing) ownDifference() ([][]int, bool) {
	if sizeOf(c.a) != sizeOf(c.b) {
		return nil, false
	}
	out := filled(sizeOf(c.a), func(row int, column int) int { return c.a[row][column] - c.b[row][column] })
	if slices.Min(slices.Concat(out...)) < 0 {
		return nil, false
	}
	return out, true
}

// ownRisk returns what DiffRisk must return for two tables, of equal or different sizes.
func (c comparing) ownRisk(k int) int {
	out, ok := c.ownDifference()
	if !ok {
		return -1
	}
	return manySet(ownSmall(out, k))
}

// addedUp returns the sums of the cells of two tables of the same size, without the program.
func addedUp(a [][]int, b [][]int) [][]int {
	return filled(sizeOf(a), func(row int, column int) int { return a[row][column] + b[row][column] })
}

// changed returns rows of the same size, with a function telling what each number becomes.
func changed(table [][]int, tell func(v int) int) [][]int {
	return filled(sizeOf(table), func(row int, column int) int { return tell(table[row][column]) })
}

// lesser returns tables of which no cell is greater than that of a table: this one itself, an equal one, zeros,
// ones that are less in one cell, or in some, by little or by much.
func (l *lots) lesser(table [][]int) [][][]int {
	out := [][][]int{table, copied(table), uniform(sizeOf(table), 0)}
	for _, by := range []int{1, 2, 4, impl.CellMax} {
		out = append(out, changed(table, func(v int) int { return v - l.below(min(v, by)+1) }))
	}
	eachPlace(table, func(row int, column int) {
		if v := table[row][column]; v > 0 {
			out = append(out, withCell(table, row, column, v-1), withCell(table, row, column, l.below(v)))
		}
	})
	return out
}

// greater returns tables of the size of a table of which just one cell is greater than its, and all others are equal or less.
func (l *lots) greater(table [][]int) [][][]int {
	var out [][][]int
	eachPlace(table, func(row int, column int) {
		if v := table[row][column]; v < impl.CellMax {
			less := changed(table, func(v int) int { return l.below(v + 1) })
			out = append(out, withCell(table, row, column, v+1), withCell(less, row, column, v+1), withCell(less, row, column, impl.CellMax))
		}
	})
	return out
}

// otherSizes returns tables of all other sizes, none of whose cells is greater than those of a table: zeros, and its own rows and columns where it has them.
func otherSizes(table [][]int) [][][]int {
	var out [][][]int
	for _, s := range everySize() {
		if s != sizeOf(table) {
			out = append(out, uniform(s, 0), filled(s, func(row int, column int) int {
				if row < len(table) && column < len(table[0]) {
					return table[row][column]
				}
				return 0
			}))
		}
	}
	return out
}

// sampleComparings returns tables of all sizes with tables from which they differ by little, by much, or not at all.
func sampleComparings() []comparing {
	l := &lots{state: 60}
	var out []comparing
	for _, table := range sampleTables() {
		for _, b := range l.lesser(table) {
			out = append(out, comparing{table, b})
		}
	}
	return out
}

// refusedComparings returns tables with tables that are greater in a cell, or of another size.
func refusedComparings() []comparing {
	l := &lots{state: 61}
	var out []comparing
	for i, table := range sampleTables() {
		for _, b := range l.greater(table) {
			out = append(out, comparing{table, b})
		}
		if i%4 == 0 {
			for _, b := range otherSizes(table) {
				out = append(out, comparing{table, b}, comparing{b, table})
			}
		}
	}
	return out
}

// eachDifference calls a function with two tables, and with the result of DiffTable, which must succeed.
func eachDifference(t *testing.T, do func(c comparing, out [][]int)) {
	t.Helper()
	for _, c := range sampleComparings() {
		out, ok := c.difference()
		if !ok {
			t.Fatalf("DiffTable of %v fails", c)
		}
		do(c, out)
	}
}

// expectNoDifference expects that the functions of tables of chapter 15 refuse two tables.
func (c comparing) expectNoDifference(t *testing.T, numbers []int) {
	t.Helper()
	if out, ok := c.difference(); ok || len(out) != 0 {
		t.Errorf("DiffTable of %v is %v, %v", c, out, ok)
	}
	for _, k := range numbers {
		if got := c.risk(k); got != -1 {
			t.Errorf("DiffRisk of %v for %d is %d", c, k, got)
		}
	}
}

// expectDifference expects what DiffTable and DiffRisk must return for two tables and numbers.
func (c comparing) expectDifference(t *testing.T, numbers []int) {
	t.Helper()
	want, wantOk := c.ownDifference()
	if got, ok := c.difference(); ok != wantOk || !sameRows(got, want) {
		t.Errorf("DiffTable of %v is %v, %v, not %v, %v", c, got, ok, want, wantOk)
	}
	for _, k := range numbers {
		if got := c.risk(k); got != c.ownRisk(k) {
			t.Errorf("DiffRisk of %v for %d is %d, not %d", c, k, got, c.ownRisk(k))
		}
	}
}

// matching is a first and a second list of people.
type matching struct {
	a, b []impl.Person
}

func (m matching) holds() bool {
	return impl.DiffPeople(m.a, m.b)
}

func (m matching) same() int {
	return impl.DiffSame(m.a, m.b)
}

// exchanged returns both lists, the second one first.
func (m matching) exchanged() matching {
	return matching{m.b, m.a}
}

// ownTimes returns how often a person is among people, without the program.
func ownTimes(list []impl.Person, p impl.Person) int {
	times := 0
	for _, other := range list {
		if other == p {
			times++
		}
	}
	return times
}

// ownHolds reports what DiffPeople must report for people.
func (m matching) ownHolds() bool {
	return !slices.ContainsFunc(m.b, func(p impl.Person) bool { return ownTimes(m.b, p) > ownTimes(m.a, p) })
}

// ownSame returns what DiffSame must return for people: it crosses each one of the first ones off the second ones.
func (m matching) ownSame() int {
	rest := slices.Clone(m.b)
	for _, p := range m.a {
		if k := slices.Index(rest, p); k >= 0 {
			rest = slices.Delete(rest, k, k+1)
		}
	}
	return len(m.b) - len(rest)
}

// nearPersons returns persons that differ from a person in just one field.
func nearPersons(p impl.Person) []impl.Person {
	return []impl.Person{
		withArea(p, (p.Area+1)%impl.Codes), withJob(p, (p.Job+1)%impl.Codes), withSex(p, 1-p.Sex),
		withPay(p, (p.Pay+1)%(impl.PayMax+1)), withPay(p, (p.Pay+100)%(impl.PayMax+1)),
	}
}

// repeated returns n persons, each of them one of only few persons.
func (l *lots) repeated(n int, few int) []impl.Person {
	some, out := l.people(few), l.people(n)
	for k := range out {
		out[k] = some[l.below(few)]
	}
	return out
}

// reordered returns people in an order drawn by lot.
func (l *lots) reordered(list []impl.Person) []impl.Person {
	var out []impl.Person
	for _, k := range l.shuffled(len(list)) {
		out = append(out, list[k])
	}
	return out
}

// pick returns about one of some persons, in their order.
func (l *lots) pick(list []impl.Person, some int) []impl.Person {
	return slices.DeleteFunc(slices.Clone(list), func(impl.Person) bool { return l.below(some) > 0 })
}

// firstPeople returns valid lists of people: those who are all different, those who are there again and again, and those who differ in just one field.
func firstPeople() [][]impl.Person {
	l := &lots{state: 62}
	out := append(samplePeople(), clusteredLists()...)
	for _, few := range []int{1, 2, 3, 5, 12} {
		for _, n := range []int{1, 2, 3, 6, impl.PeopleMax / 2, impl.PeopleMax - 1, impl.PeopleMax} {
			out = append(out, l.repeated(n, few))
		}
	}
	for range 5 {
		p := l.person()
		near := append(nearPersons(p), p)
		out = append(out, near, joined(near, near), l.reordered(joined(near, near, near)), joined(near, samePeople(p, 20)))
	}
	return out
}

// secondPeople returns people who are not all different from those of a list:
// these themselves, in another order, some of them, others in the place of one, one of them more often, and all of them twice.
func (l *lots) secondPeople(list []impl.Person) [][]impl.Person {
	out := [][]impl.Person{list, slices.Clone(list), nil, l.reordered(list), l.pick(list, 2), l.reordered(l.pick(list, 3)), l.people(len(list))}
	for _, n := range cuts(list) {
		out = append(out, list[:n], list[n:], joined(list[n:], list[:n]))
	}
	if len(list) == 0 {
		return append(out, l.people(1), l.people(impl.PeopleMax))
	}
	k := l.below(len(list))
	p, others := list[k], slices.Delete(slices.Clone(list), k, k+1)
	out = append(out, others, l.reordered(others), []impl.Person{p}, samePeople(p, len(list)), samePeople(p, impl.PeopleMax))
	for _, near := range nearPersons(p) {
		other := slices.Clone(list)
		other[k] = near
		out = append(out, other, []impl.Person{near})
	}
	if many := ownTimes(list, p); many < impl.PeopleMax {
		out = append(out, samePeople(p, many), samePeople(p, many+1))
	}
	if len(list) < impl.PeopleMax {
		out = append(out, joined(list, []impl.Person{p}), l.reordered(joined(list, l.people(1))), joined([]impl.Person{p}, list))
	}
	if len(list) <= impl.PeopleMax/2 {
		out = append(out, joined(list, list), l.reordered(joined(list, list)))
	}
	return out
}

// sampleMatchings returns people of all numbers with people who are partly the same.
func sampleMatchings() []matching {
	l := &lots{state: 63}
	var out []matching
	for _, list := range firstPeople() {
		for _, b := range l.secondPeople(list) {
			out = append(out, matching{list, b})
		}
	}
	return out
}

// eachPart calls a function with people for which DiffPeople must hold.
func eachPart(t *testing.T, do func(m matching)) {
	t.Helper()
	met := 0
	for _, m := range sampleMatchings() {
		if !m.ownHolds() {
			continue
		}
		if !m.holds() {
			t.Fatalf("DiffPeople of %v does not hold", m)
		}
		met++
		do(m)
	}
	if met < 1000 {
		t.Fatalf("DiffPeople only holds %d times", met)
	}
}

// everyPeople returns all lists of up to n of some persons.
func everyPeople(some []impl.Person, n int) [][]impl.Person {
	out := [][]impl.Person{nil}
	from := 0
	for range n {
		to := len(out)
		for _, list := range out[from:to] {
			for _, p := range some {
				out = append(out, joined(list, []impl.Person{p}))
			}
		}
		from = to
	}
	return out
}

// expectMatch expects what DiffPeople and DiffSame must return for people.
func (m matching) expectMatch(t *testing.T) {
	t.Helper()
	if m.holds() != m.ownHolds() {
		t.Errorf("DiffPeople of %v is %v", m, !m.ownHolds())
	}
	if got := m.same(); got != m.ownSame() {
		t.Errorf("DiffSame of %v is %d, not %d", m, got, m.ownSame())
	}
}

// expectNoMatch expects that the functions of people of chapter 15 refuse two lists.
func (m matching) expectNoMatch(t *testing.T) {
	t.Helper()
	if got := m.same(); m.holds() || got != -1 {
		t.Errorf("DiffPeople of %v is %v, and DiffSame %d", m, m.holds(), got)
	}
}

// differenceCalls are the functions of two tables, each called just once, as a change that is made twice may undo itself.
func differenceCalls() []func(c comparing) {
	return []func(c comparing){
		func(c comparing) { c.difference() },
		func(c comparing) { c.risk(3) },
		func(c comparing) { c.risk(impl.CellMax + 1) },
		func(c comparing) { c.risk(-1) },
	}
}

// matchCalls are the functions of two lists of people, each called just once.
func matchCalls() []func(m matching) {
	return []func(m matching){
		func(m matching) { m.holds() },
		func(m matching) { m.same() },
	}
}

// expectStays calls a function with two tables, each of which has room behind it, and expects that neither they nor the room change.
func (c comparing) expectStays(t *testing.T, call func(c comparing)) {
	t.Helper()
	expectTableStays(t, c.a, nil, func(table [][]int, _ [][]bool) { call(comparing{table, c.b}) })
	expectTableStays(t, c.b, nil, func(table [][]int, _ [][]bool) { call(comparing{c.a, table}) })
}

// expectStays calls a function with people, each list of whom has room behind it, and expects that neither they nor the room change.
func (m matching) expectStays(t *testing.T, call func(m matching)) {
	t.Helper()
	expectStays(t, alike(m.a), func(g grouping) { call(matching{g.list, m.b}) })
	expectStays(t, alike(m.b), func(g grouping) { call(matching{m.a, g.list}) })
}
