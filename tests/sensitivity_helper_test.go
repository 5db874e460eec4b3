package tests

import (
	"math"
	"slices"
	"sort"
	"testing"

	"loop.example/disclosurecontrol/impl"
)

// withParts returns contributions with further ones behind, in new memory.
func withParts(list []int, further ...int) []int {
	return slices.Concat(list, further)
}

// withPart returns contributions with another one in one place, in new memory.
func withPart(list []int, k int, part int) []int {
	out := slices.Clone(list)
	out[k] = part
	return out
}

// descending returns contributions in their order, in new memory.
func descending(list []int) []int {
	out := slices.Sorted(slices.Values(list))
	slices.Reverse(out)
	return out
}

// ranked returns the contribution with an index in the order of contributions, or 0 if there is none.
func ranked(list []int, k int) int {
	if k >= len(list) {
		return 0
	}
	return descending(list)[k]
}

// doubled returns all contributions twice as great.
func doubled(list []int) []int {
	out := slices.Clone(list)
	for k := range out {
		out[k] *= 2
	}
	return out
}

// moved returns contributions with the first n of them moved to the end.
func moved(list []int, n int) []int {
	return slices.Concat(list[n:], list[:n])
}

// hasRoom reports whether there is room for n contributions more.
func hasRoom(list []int, n int) bool {
	return len(list)+n <= impl.PartsMax
}

// parts returns the next n contributions, up to a greatest one.
func (l *lots) parts(n int, most int) []int {
	list := make([]int, n)
	for k := range list {
		list[k] = l.below(most + 1)
	}
	return list
}

// everySmallParts returns all lists of up to 4 contributions from 0 to 3.
func everySmallParts() [][]int {
	out := [][]int{nil}
	from := 0
	for range 4 {
		to := len(out)
		for _, list := range out[from:to] {
			for part := range 4 {
				out = append(out, withParts(list, part))
			}
		}
		from = to
	}
	return out
}

// mixes returns contributions in ascending, in descending and in mixed order.
func mixes(list []int) [][]int {
	sorted := descending(list)
	mixed := make([]int, 0, len(list))
	for k := range sorted {
		if k%2 == 0 {
			mixed = append(mixed, sorted[k])
		} else {
			mixed = slices.Insert(mixed, 0, sorted[k])
		}
	}
	return [][]int{slices.Sorted(slices.Values(list)), sorted, mixed, moved(mixed, len(mixed)/3)}
}

// partsByLot returns contributions of all lengths, drawn by lot: up to several greatest ones, with some that are 0, and with one that is much greater than the others.
func partsByLot() [][]int {
	l := &lots{state: 30}
	var out [][]int
	for n := range impl.PartsMax + 1 {
		for _, most := range []int{1, 9, 200, impl.PartMax} {
			out = append(out, l.parts(n, most))
		}
		if n == 0 {
			continue
		}
		great := withPart(l.parts(n, 40), l.below(n), 1+l.below(2000))
		zeros := slices.Concat(l.parts(n/2, 50), make([]int, n-n/2))
		out = append(out, great, zeros, moved(zeros, n/3), withPart(l.parts(n, impl.PartMax/2), l.below(n), impl.PartMax))
	}
	return out
}

// sampleParts returns contributions: none, one, equal ones, as many as there can be, in all orders, all small ones, and some drawn by lot.
func sampleParts() [][]int {
	out := append(everySmallParts(), []int{})
	for _, part := range []int{0, 1, 2, 99, 100, 101, impl.PartMax - 1, impl.PartMax} {
		for _, n := range []int{1, 2, 3, impl.PartsMax / 2, impl.PartsMax - 1, impl.PartsMax} {
			same := slices.Repeat([]int{part}, n)
			out = append(out, same, withPart(same, n-1, 7), withPart(same, 0, impl.PartMax), withPart(same, n/2, 0))
		}
	}
	for _, list := range [][]int{{70, 15, 10, 5}, {1, 2, 3, 4, 5, 6, 7}, {impl.PartMax, 1, 1, 0}, {50, 40, 30, 20, 10, 0, 0}} {
		out = append(out, mixes(list)...)
	}
	return append(out, partsByLot()...)
}

// someParts returns about one in some of the sampleParts, and the last ones with all of them.
func someParts(some int) [][]int {
	var out [][]int
	for k, list := range sampleParts() {
		if k%some == 0 || len(list) > 4 {
			out = append(out, list)
		}
	}
	return out
}

// badParts returns numbers that are no contributions.
func badParts() []int {
	return []int{-1, -2, -impl.PartMax, impl.PartMax + 1, impl.PartMax + 2, 2 * impl.PartMax, math.MinInt, math.MinInt + 1, math.MaxInt}
}

// invalidParts returns lists that are no contributions: with one bad number in each place, with only bad ones, or with too many numbers.
func invalidParts() [][]int {
	l := &lots{state: 31}
	var out [][]int
	for _, bad := range badParts() {
		for _, n := range []int{1, 2, 3, 7, impl.PartsMax} {
			for k := range n {
				out = append(out, withPart(l.parts(n, 1000), k, bad), withPart(make([]int, n), k, bad))
			}
			out = append(out, slices.Repeat([]int{bad}, n))
		}
	}
	// Their sum is that of valid contributions.
	out = append(out, []int{-1, 1}, []int{5, -5, 10}, []int{impl.PartMax + 1, -1}, []int{math.MaxInt, -math.MaxInt, 9})
	for _, n := range []int{impl.PartsMax + 1, impl.PartsMax + 2, 2 * impl.PartsMax, 5000} {
		out = append(out, make([]int, n), slices.Repeat([]int{1}, n), withPart(make([]int, n), 0, impl.PartMax), withPart(make([]int, n), n-1, 3), l.parts(n, impl.PartMax))
	}
	return out
}

// topNumbers returns how many contributions may be asked for: none, one, as many as there are, PartsMax and more.
func topNumbers(list []int) []int {
	out := []int{0, 1, 2, 3, len(list) / 2, len(list), len(list) + 1, impl.PartsMax - 1, impl.PartsMax, impl.PartsMax + 1, 1000, math.MaxInt}
	if len(list) > 0 {
		out = append(out, len(list)-1)
	}
	slices.Sort(out)
	return slices.Compact(out)
}

// anyNumbers returns topNumbers and negative ones.
func anyNumbers(list []int) []int {
	return append(topNumbers(list), -1, -2, -impl.PartsMax, math.MinInt, math.MinInt+1)
}

// leadNumbers returns the numbers for which PartsLead may hold.
func leadNumbers() []int {
	return []int{1, 2, 3, 4, 10, impl.PartsMax - 1, impl.PartsMax}
}

// badLeads returns numbers for which PartsLead never holds.
func badLeads() []int {
	return []int{0, -1, -2, impl.PartsMax + 1, impl.PartsMax + 2, math.MinInt, math.MaxInt}
}

// somePercents returns percentages, in ascending order, the least and the greatest among them.
func somePercents() []int {
	return []int{0, 1, 2, 10, 22, 33, 49, 50, 51, 69, 70, 90, 98, 99, 100}
}

// badPercents returns numbers that are no percentages; some overflow if they are multiplied.
func badPercents() []int {
	return []int{-1, -2, -100, 101, 102, 1000, math.MinInt, math.MinInt + 1, math.MinInt / 100, math.MaxInt / 100, math.MaxInt}
}

// ownTop returns what PartsTop must return for contributions and a number from 0 on.
func ownTop(list []int, n int) int {
	return total(descending(list)[:min(n, len(list))])
}

// ownFew returns what PartsFew must return for contributions.
func ownFew(list []int, n int) bool {
	some := slices.DeleteFunc(slices.Clone(list), func(part int) bool { return part == 0 })
	return len(some) > 0 && len(some) < n
}

// ownLead returns what PartsLead must return for contributions and numbers in their ranges.
func ownLead(list []int, n int, percent int) bool {
	return ownTop(list, n)*100 > percent*total(list)
}

// ownGuess returns what PartsGuess must return for contributions and a percentage, if a number is added to the sum of all but the two greatest ones.
func ownGuess(list []int, percent int, added int) bool {
	return ranked(list, 0)*percent > 100*(total(list)-ownTop(list, 2)+added)
}

// ownSpare returns what PartsSpare must return for contributions and a percentage: it looks for the least number.
func ownSpare(list []int, percent int) int {
	return sort.Search(impl.PartMax, func(added int) bool { return !ownGuess(list, percent, added) })
}

// eachLead calls a function with contributions, numbers and percentages for which PartsLead holds.
func eachLead(t *testing.T, do func(list []int, n int, percent int)) {
	t.Helper()
	met := 0
	for _, list := range someParts(5) {
		for _, n := range leadNumbers() {
			for _, percent := range somePercents() {
				if impl.PartsLead(list, n, percent) {
					met++
					do(list, n, percent)
				}
			}
		}
	}
	if met < 5000 {
		t.Errorf("PartsLead only holds %d times", met)
	}
}

// eachGuess calls a function with contributions and percentages for which PartsGuess holds.
func eachGuess(t *testing.T, do func(list []int, percent int)) {
	t.Helper()
	met := 0
	for _, list := range sampleParts() {
		for _, percent := range somePercents() {
			if impl.PartsGuess(list, percent) {
				met++
				do(list, percent)
			}
		}
	}
	if met < 1000 {
		t.Errorf("PartsGuess only holds %d times", met)
	}
}

// eachSpare calls a function with contributions, percentages, and PartsSpare of them.
func eachSpare(t *testing.T, do func(list []int, percent int, spare int)) {
	t.Helper()
	for _, list := range sampleParts() {
		for _, percent := range somePercents() {
			spare := impl.PartsSpare(list, percent)
			if spare < 0 {
				t.Fatalf("PartsSpare of %v for %d is %d", list, percent, spare)
			}
			do(list, percent, spare)
		}
	}
}

// topOf returns PartsTop, which must not be -1.
func topOf(t *testing.T, list []int, n int) int {
	t.Helper()
	top := impl.PartsTop(list, n)
	if top < 0 {
		t.Fatalf("PartsTop of %v for %d is %d", list, n, top)
	}
	return top
}

// evenLead is contributions whose first n are just a percentage of all, and the greatest ones of them.
type evenLead struct {
	list       []int
	n, percent int
}

// evenLeads returns contributions for all n and for several percentages, of which the n greatest ones are equal, and so are the others.
func evenLeads() []evenLead {
	var out []evenLead
	for n := 1; n < impl.PartsMax; n++ {
		for others := 1; n+others <= impl.PartsMax; others++ {
			for _, percent := range somePercents() {
				great, small := percent*others, n*(100-percent)
				if small <= great {
					out = append(out, evenLead{slices.Concat(slices.Repeat([]int{great}, n), slices.Repeat([]int{small}, others)), n, percent})
				}
			}
		}
	}
	return out
}

// evenGuess is contributions whose first one, times a percentage, is just 100 times the sum of all but the first two, and stays so great if the last one changes by 1.
type evenGuess struct {
	list    []int
	percent int
}

// evenGuesses returns contributions with several greatest and second greatest ones, and one or more others.
func evenGuesses() []evenGuess {
	var out []evenGuess
	for _, hundreds := range []int{1, 2, 7, 50, 999, impl.PartMax / 100} {
		for _, percent := range somePercents()[1:] {
			greatest, rest := 100*hundreds, percent*hundreds
			for _, second := range []int{rest + 1, (rest + 1 + greatest) / 2, greatest} {
				for _, others := range []int{1, 2, 5, impl.PartsMax - 2} {
					list := []int{greatest, second}
					for k := range others - 1 {
						list = append(list, (rest+k)/(others+1))
					}
					last := rest - total(list[2:])
					if second <= greatest && last < second {
						out = append(out, evenGuess{withParts(list, last), percent})
					}
				}
			}
		}
	}
	return out
}

// partCalls are the functions of contributions, each called just once, as a change that is made twice may undo itself.
func partCalls() []func(list []int) {
	return []func(list []int){
		func(list []int) { impl.PartsValid(list) },
		func(list []int) { impl.PartsTop(list, 0) },
		func(list []int) { impl.PartsTop(list, 1) },
		func(list []int) { impl.PartsTop(list, 3) },
		func(list []int) { impl.PartsTop(list, impl.PartsMax) },
		func(list []int) { impl.PartsTop(list, -1) },
		func(list []int) { impl.PartsFew(list, 3) },
		func(list []int) { impl.PartsFew(list, math.MaxInt) },
		func(list []int) { impl.PartsLead(list, 1, 70) },
		func(list []int) { impl.PartsLead(list, 3, 0) },
		func(list []int) { impl.PartsLead(list, 0, 101) },
		func(list []int) { impl.PartsGuess(list, 20) },
		func(list []int) { impl.PartsGuess(list, -1) },
		func(list []int) { impl.PartsSpare(list, 50) },
		func(list []int) { impl.PartsSpare(list, 101) },
	}
}

// partAnswers is what all functions of chapter 12 tell of a list, for some numbers.
type partAnswers struct {
	valid            bool
	top              [4]int
	few, lead, guess [3]bool
	spare            [3]int
}

// answersOf asks all functions of chapter 12.
func answersOf(list []int) partAnswers {
	a := partAnswers{valid: impl.PartsValid(list)}
	for k, n := range []int{1, 2, 5, impl.PartsMax} {
		a.top[k] = impl.PartsTop(list, n)
	}
	for k := range 3 {
		a.few[k] = impl.PartsFew(list, 2+2*k)
		a.lead[k] = impl.PartsLead(list, 1+k, 40*k)
		a.guess[k] = impl.PartsGuess(list, 1+40*k)
		a.spare[k] = impl.PartsSpare(list, 100-40*k)
	}
	return a
}
