package tests

import (
	"math"
	"slices"

	"loop.example/disclosurecontrol/impl"
)

// everyNumbers returns all lists of Codes numbers from low to high.
func everyNumbers(low int, high int) [][]int {
	out := [][]int{{}}
	for range impl.Codes {
		var longer [][]int
		for _, list := range out {
			for v := low; v <= high; v++ {
				longer = append(longer, append(slices.Clone(list), v))
			}
		}
		out = longer
	}
	return out
}

// leastOfGroups returns the step whose groups are the codes with equal labels.
func leastOfGroups(labels []int) []int {
	step := make([]int, len(labels))
	for code, label := range labels {
		step[code] = slices.Index(labels, label)
	}
	return step
}

// everyStep returns all steps, one for each way to put the codes into groups.
func everyStep() [][]int {
	var out [][]int
	for _, labels := range everyNumbers(0, impl.Codes-1) {
		if step := leastOfGroups(labels); !hasStep(out, step) {
			out = append(out, step)
		}
	}
	return out
}

func hasStep(steps [][]int, step []int) bool {
	return slices.ContainsFunc(steps, func(s []int) bool { return slices.Equal(s, step) })
}

// keeps reports whether codes that are in one group of the first step are in one group of the second one.
func keeps(first []int, second []int) bool {
	for c := range impl.Codes {
		for d := range impl.Codes {
			if first[c] == first[d] && second[c] != second[d] {
				return false
			}
		}
	}
	return true
}

// highest returns the code of each code's group at the highest level.
func highest(ladder [][]int) []int {
	if len(ladder) == 0 {
		return tellsItself()
	}
	return ladder[len(ladder)-1]
}

// tellsItself returns the step that changes nothing.
func tellsItself() []int {
	step := make([]int, impl.Codes)
	for code := range step {
		step[code] = code
	}
	return step
}

// everyLadder returns all ladders, from no steps to StepsMax.
func everyLadder() [][][]int {
	steps := everyStep()
	out := [][][]int{{}}
	from := 0
	for range impl.StepsMax {
		to := len(out)
		for _, ladder := range out[from:to] {
			for _, step := range steps {
				if keeps(highest(ladder), step) {
					out = append(out, behind(ladder, step))
				}
			}
		}
		from = to
	}
	return out
}

// copied returns lists, such as those of a ladder, in new memory.
func copied[T any](lists [][]T) [][]T {
	var out [][]T
	for _, list := range lists {
		out = append(out, slices.Clone(list))
	}
	return out
}

// behind returns a ladder with a step behind it, in new memory.
func behind(ladder [][]int, step []int) [][]int {
	return copied(slices.Concat(ladder, [][]int{step}))
}

func sameLadder(a [][]int, b [][]int) bool {
	return slices.EqualFunc(a, b, slices.Equal[[]int])
}

// badSteps returns lists that are no step: of a wrong length, with a number out of its range, or with one that does not tell itself.
func badSteps() [][]int {
	itself := tellsItself()
	out := [][]int{nil, {}, {0}, itself[:impl.Codes-1], append(slices.Clone(itself), 0), append(slices.Clone(itself), impl.Codes), make([]int, 5000)}
	for code := range impl.Codes {
		for _, v := range []int{-1, -2, code + 1, impl.Codes, math.MinInt, math.MaxInt} {
			step := slices.Clone(itself)
			step[code] = v
			out = append(out, step)
		}
	}
	return append(out, []int{0, 0, 1, 3}, []int{0, 0, 1, 1}, []int{0, 0, 0, 1}, []int{0, 1, 1, 2}, []int{0, 1, 0, 2})
}

// invalidLadders returns lists with one bad step in each place, with too many steps, and with finer steps.
func invalidLadders() [][][]int {
	var out [][][]int
	zeros := make([]int, impl.Codes)
	for _, bad := range badSteps() {
		out = append(out, [][]int{bad}, [][]int{bad, zeros, zeros}, [][]int{tellsItself(), bad}, [][]int{tellsItself(), bad, zeros})
		out = append(out, [][]int{tellsItself(), tellsItself(), bad}, [][]int{zeros, zeros, bad}, [][]int{bad, bad, bad})
	}
	for _, step := range everyStep() {
		out = append(out, slices.Repeat([][]int{step}, impl.StepsMax+1), slices.Repeat([][]int{step}, 1000))
	}
	for _, ladder := range everyLadder() {
		for _, step := range everyStep() {
			if len(ladder) < impl.StepsMax && !keeps(highest(ladder), step) {
				out = append(out, behind(ladder, step))
			}
		}
	}
	return append(out, [][]int{zeros, {0, 0, 2, 2}, zeros}, [][]int{{0, 1, 1, 3}, {0, 0, 2, 3}, zeros})
}

// badCodes returns numbers that are no codes of an area.
func badCodes() []int {
	return []int{-1, -2, impl.Codes, impl.Codes + 1, math.MinInt, math.MaxInt}
}

// badLevels returns levels that a ladder does not have.
func badLevels(ladder [][]int) []int {
	return []int{-1, -2, len(ladder) + 1, len(ladder) + 2, impl.StepsMax + 1, math.MinInt, math.MaxInt}
}

// codePairs returns all pairs of codes, equal ones among them.
func codePairs() [][2]int {
	var out [][2]int
	for a := range impl.Codes {
		for b := range impl.Codes {
			out = append(out, [2]int{a, b})
		}
	}
	return out
}

// eachLevelCode calls a function with each ladder, each of its levels and each code.
func eachLevelCode(do func(ladder [][]int, level int, code int)) {
	for _, ladder := range everyLadder() {
		for level := range len(ladder) + 1 {
			for code := range impl.Codes {
				do(ladder, level, code)
			}
		}
	}
}

// eachMerge calls a function with each ladder and each two codes for which LadderMerge succeeds, and with its result.
func eachMerge(do func(ladder [][]int, a int, b int, merged [][]int)) {
	for _, ladder := range everyLadder() {
		for _, p := range codePairs() {
			if merged, ok := impl.LadderMerge(ladder, p[0], p[1]); ok {
				do(ladder, p[0], p[1], merged)
			}
		}
	}
}

// codeAt returns LadderCode, or -1 if it fails.
func codeAt(ladder [][]int, level int, code int) int {
	if c, ok := impl.LadderCode(ladder, level, code); ok {
		return c
	}
	return -1
}

// countMerges returns how many pairs of codes are in different groups at the highest level of a ladder that is not full.
func countMerges() int {
	many := 0
	for _, ladder := range everyLadder() {
		for _, p := range codePairs() {
			if top := highest(ladder); len(ladder) < impl.StepsMax && top[p[0]] != top[p[1]] {
				many++
			}
		}
	}
	return many
}

// roomy returns a ladder of which the list and each step have room behind them that is not theirs,
// and all of the memory, the room included, in which they are: first that of the list, then that of each step.
func roomy(ladder [][]int) (list [][]int, whole [][]int) {
	whole = behind(behind(ladder, []int{70, 71}), []int{72, 73})
	for i, step := range ladder {
		whole[i] = append(slices.Clone(step), 80+i, 90+i)[:len(step)]
	}
	return whole[:len(ladder)], whole
}

// toCapacity returns what is in the memory of a list of lists and of these, up to their capacities.
func toCapacity[T any](lists [][]T) [][]T {
	var out [][]T
	for _, list := range lists[:cap(lists)] {
		out = append(out, slices.Clone(list[:cap(list)]))
	}
	return out
}

// fill sets all that is in the memory of a list, up to its capacity.
func fill[T any](list []T, v T) {
	whole := list[:cap(list)]
	for i := range whole {
		whole[i] = v
	}
}
