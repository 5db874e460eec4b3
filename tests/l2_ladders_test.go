package tests

import (
	"slices"
	"testing"

	"loop.example/disclosurecontrol/impl"
)

func TestLadderConstants(t *testing.T) {
	if impl.StepsMax != 3 {
		t.Errorf("StepsMax %d", impl.StepsMax)
	}
}

// TestLadderHelpers keeps the tests below from passing because they look at nothing:
// there are 15 ways to put 4 codes into groups, and 1, 15, 60 and 154 ladders of 0 to 3 steps.
func TestLadderHelpers(t *testing.T) {
	if steps, ladders := len(everyStep()), len(everyLadder()); steps != 15 || ladders != 230 {
		t.Errorf("%d steps and %d ladders", steps, ladders)
	}
	merges := 0
	eachMerge(func(_ [][]int, _ int, _ int, _ [][]int) { merges++ })
	if want := countMerges(); merges != want || merges == 0 {
		t.Errorf("LadderMerge succeeds %d times, not %d", merges, want)
	}
}

func TestPromise16LadderValid(t *testing.T) {
	for _, ladder := range everyLadder() {
		for n := range len(ladder) + 1 {
			if !impl.LadderValid(ladder[:n]) {
				t.Fatalf("%v is not valid", ladder[:n])
			}
		}
		if len(ladder) == 0 {
			continue
		}
		if impl.LadderValid(behind(ladder, highest(ladder))) != (len(ladder) < impl.StepsMax) {
			t.Errorf("%v with the last step twice: wrong", ladder)
		}
	}
	if !impl.LadderValid(nil) {
		t.Error("no steps are not valid")
	}
}

func TestPromise17LadderCode(t *testing.T) {
	eachLevelCode(func(ladder [][]int, level int, code int) {
		c, ok := impl.LadderCode(ladder, level, code)
		if !ok || c < 0 || c > code || codeAt(ladder, level, c) != c {
			t.Fatalf("LadderCode of %v, level %d, code %d is %d, %v", ladder, level, code, c, ok)
		}
		if level < len(ladder) && codeAt(ladder, level+1, code) != codeAt(ladder, level+1, c) {
			t.Errorf("next level of %v, level %d, code %d", ladder, level, code)
		}
	})
}

func TestPromise18OneGroupStaysOne(t *testing.T) {
	eachLevelCode(func(ladder [][]int, level int, code int) {
		for other := range impl.Codes {
			if codeAt(ladder, level, code) != codeAt(ladder, level, other) {
				continue
			}
			if top := len(ladder); codeAt(ladder, top, code) != codeAt(ladder, top, other) {
				t.Errorf("%v parts %d and %d, which are one group at level %d", ladder, code, other, level)
			}
		}
	})
}

func TestPromise19LadderGroups(t *testing.T) {
	for _, ladder := range everyLadder() {
		before := impl.Codes
		for level := range len(ladder) + 1 {
			groups := impl.LadderGroups(ladder, level)
			if groups < 1 || groups > before || level == 0 && groups != impl.Codes {
				t.Errorf("LadderGroups of %v, level %d is %d behind %d", ladder, level, groups, before)
			}
			before = groups
		}
	}
}

func TestPromise20DifferentCodes(t *testing.T) {
	for _, ladder := range everyLadder() {
		for level := range len(ladder) + 1 {
			different := map[int]bool{}
			for code := range impl.Codes {
				different[codeAt(ladder, level, code)] = true
			}
			if groups := impl.LadderGroups(ladder, level); groups != len(different) {
				t.Errorf("LadderGroups of %v, level %d is %d, not %d", ladder, level, groups, len(different))
			}
		}
	}
}

func TestPromise21LadderMerge(t *testing.T) {
	eachMerge(func(ladder [][]int, a int, b int, merged [][]int) {
		if !impl.LadderValid(merged) || len(merged) != len(ladder)+1 || !sameLadder(merged[:len(ladder)], ladder) {
			t.Fatalf("LadderMerge %d, %d of %v is %v", a, b, ladder, merged)
		}
		if impl.LadderGroups(merged, len(merged)) != impl.LadderGroups(ladder, len(ladder))-1 {
			t.Errorf("LadderMerge %d, %d of %v does not have one group less: %v", a, b, ladder, merged)
		}
		if codeAt(merged, len(merged), a) != codeAt(merged, len(merged), b) {
			t.Errorf("LadderMerge %d, %d of %v keeps them apart: %v", a, b, ladder, merged)
		}
	})
}

func TestPromise22CodesExchanged(t *testing.T) {
	for _, ladder := range everyLadder() {
		for _, p := range codePairs() {
			x, xOk := impl.LadderMerge(ladder, p[0], p[1])
			y, yOk := impl.LadderMerge(ladder, p[1], p[0])
			if xOk != yOk || !sameLadder(x, y) {
				t.Errorf("LadderMerge %v of %v and exchanged: %v and %v", p, ladder, x, y)
			}
			if p[0] == p[1] && (xOk || len(x) != 0) {
				t.Errorf("LadderMerge %v of %v is %v, %v", p, ladder, x, xOk)
			}
		}
	}
}

func TestPromise23CodeOfCode(t *testing.T) {
	eachLevelCode(func(ladder [][]int, level int, code int) {
		c := codeAt(ladder, level, code)
		for lower := range level + 1 {
			again, ok := impl.LadderCode(ladder, lower, c)
			if !ok || again > c || lower == level && again != c {
				t.Errorf("%v takes %d to %d at level %d, and this to %d at level %d", ladder, code, c, level, again, lower)
			}
		}
	})
}

func TestPromise24ThreeMerges(t *testing.T) {
	ladders := [][][]int{{}}
	for n := range 3 {
		var longer [][][]int
		for _, ladder := range ladders {
			for _, p := range codePairs() {
				apart := codeAt(ladder, n, p[0]) != codeAt(ladder, n, p[1])
				merged, ok := impl.LadderMerge(ladder, p[0], p[1])
				if ok != apart {
					t.Fatalf("LadderMerge %v of %v: %v", p, ladder, ok)
				}
				if ok {
					longer = append(longer, merged)
				}
			}
		}
		ladders = longer
	}
	if len(ladders) == 0 {
		t.Fatal("no three merges succeed")
	}
	for _, ladder := range ladders {
		if groups := impl.LadderGroups(ladder, 3); groups != 1 {
			t.Errorf("%v has %d groups", ladder, groups)
		}
		for _, p := range codePairs() {
			if fourth, ok := impl.LadderMerge(ladder, p[0], p[1]); ok || len(fourth) != 0 {
				t.Errorf("LadderMerge %v of %v is %v, %v", p, ladder, fourth, ok)
			}
		}
	}
}

func TestPromise25MergeOnce(t *testing.T) {
	eachMerge(func(ladder [][]int, a int, b int, merged [][]int) {
		if again, ok := impl.LadderMerge(merged, a, b); ok || len(again) != 0 {
			t.Errorf("LadderMerge %d, %d of %v twice is %v, %v", a, b, ladder, again, ok)
		}
		for _, p := range codePairs() {
			if codeAt(merged, len(merged), p[0]) != codeAt(merged, len(merged), p[1]) {
				continue
			}
			if again, ok := impl.LadderMerge(merged, p[0], p[1]); ok || len(again) != 0 {
				t.Errorf("LadderMerge %v of %v is %v, %v", p, merged, again, ok)
			}
		}
	})
}

func TestPromise26FinestAndCoarsestStep(t *testing.T) {
	itself, zeros := [][]int{tellsItself()}, [][]int{make([]int, impl.Codes)}
	for _, ladder := range everyLadder() {
		room := len(ladder) < impl.StepsMax
		if impl.LadderValid(slices.Concat(itself, ladder)) != room || impl.LadderValid(slices.Concat(ladder, zeros)) != room {
			t.Errorf("%v with a finest step before, or a coarsest step behind: wrong", ladder)
		}
	}
}

func TestPromise27OtherStepsChangeNoCode(t *testing.T) {
	eachLevelCode(func(ladder [][]int, level int, code int) {
		c := codeAt(ladder, level, code)
		if codeAt(ladder[:level], level, code) != c {
			t.Errorf("LadderCode of %v, level %d, code %d needs later steps", ladder, level, code)
		}
		for _, step := range everyStep() {
			if len(ladder) < impl.StepsMax && keeps(highest(ladder), step) && codeAt(behind(ladder, step), level, code) != c {
				t.Errorf("LadderCode of %v, level %d, code %d is changed by the further step %v", ladder, level, code, step)
			}
		}
	})
}

func TestPromise28GroupsOfMerge(t *testing.T) {
	eachMerge(func(ladder [][]int, a int, b int, merged [][]int) {
		groups := impl.LadderGroups(ladder, len(ladder))
		if groups < 2 || impl.LadderGroups(merged, len(merged)) != groups-1 {
			t.Errorf("LadderMerge %d, %d of %d groups: %v", a, b, groups, merged)
		}
	})
}

// TestLadderValidOfEveryList tells all allowed steps from all other lists of numbers, and all allowed orders of steps from all others.
func TestLadderValidOfEveryList(t *testing.T) {
	steps := everyStep()
	for _, list := range everyNumbers(-1, impl.Codes) {
		want := hasStep(steps, list)
		for _, ladder := range [][][]int{{list}, {tellsItself(), list}, {list, make([]int, impl.Codes)}} {
			if impl.LadderValid(ladder) != want {
				t.Errorf("LadderValid of %v is %v", ladder, !want)
			}
		}
	}
	for _, a := range steps {
		for _, b := range steps {
			if impl.LadderValid([][]int{a, b}) != keeps(a, b) {
				t.Errorf("LadderValid of %v and %v is %v", a, b, !keeps(a, b))
			}
			for _, c := range steps {
				want := keeps(a, b) && keeps(b, c) && keeps(a, c)
				if impl.LadderValid([][]int{a, b, c}) != want {
					t.Errorf("LadderValid of %v, %v and %v is %v", a, b, c, !want)
				}
			}
		}
	}
}

// TestLadderCounted finds codes and groups anew: the promises alone would also hold for other ones.
func TestLadderCounted(t *testing.T) {
	eachLevelCode(func(ladder [][]int, level int, code int) {
		now := highest(ladder[:level])
		if got := codeAt(ladder, level, code); got != now[code] {
			t.Errorf("LadderCode of %v, level %d, code %d is %d", ladder, level, code, got)
		}
		groups := len(slices.Compact(slices.Sorted(slices.Values(now))))
		if got := impl.LadderGroups(ladder, level); got != groups {
			t.Errorf("LadderGroups of %v, level %d is %d", ladder, level, got)
		}
	})
}

func TestLadderMergeMakesTheStep(t *testing.T) {
	for _, ladder := range everyLadder() {
		for _, p := range codePairs() {
			labels := slices.Clone(highest(ladder))
			a, b := labels[p[0]], labels[p[1]]
			for code, label := range labels {
				if label == b {
					labels[code] = a
				}
			}
			want, wantOk := [][]int{}, len(ladder) < impl.StepsMax && a != b
			if wantOk {
				want = behind(ladder, leastOfGroups(labels))
			}
			if got, ok := impl.LadderMerge(ladder, p[0], p[1]); ok != wantOk || !sameLadder(got, want) {
				t.Errorf("LadderMerge %v of %v is %v, %v", p, ladder, got, ok)
			}
		}
	}
}

func TestLadderInvalid(t *testing.T) {
	for _, ladder := range invalidLadders() {
		if impl.LadderValid(ladder) {
			t.Errorf("%v is valid", ladder)
		}
		for _, level := range []int{-1, 0, 1, len(ladder) - 1, len(ladder), len(ladder) + 1} {
			if got := impl.LadderGroups(ladder, level); got != -1 {
				t.Errorf("LadderGroups of %v, level %d is %d", ladder, level, got)
			}
			for code := -1; code <= impl.Codes; code++ {
				if got, ok := impl.LadderCode(ladder, level, code); ok || got != 0 {
					t.Errorf("LadderCode of %v, level %d, code %d is %d, %v", ladder, level, code, got, ok)
				}
			}
		}
		for _, p := range codePairs() {
			if got, ok := impl.LadderMerge(ladder, p[0], p[1]); ok || len(got) != 0 {
				t.Errorf("LadderMerge %v of %v is %v, %v", p, ladder, got, ok)
			}
		}
	}
}

func TestLadderInvalidLevels(t *testing.T) {
	for _, ladder := range everyLadder() {
		for _, level := range badLevels(ladder) {
			if got := impl.LadderGroups(ladder, level); got != -1 {
				t.Errorf("LadderGroups of %v, level %d is %d", ladder, level, got)
			}
			for code := range impl.Codes {
				if got, ok := impl.LadderCode(ladder, level, code); ok || got != 0 {
					t.Errorf("LadderCode of %v, level %d, code %d is %d, %v", ladder, level, code, got, ok)
				}
			}
		}
	}
}

func TestLadderInvalidCodes(t *testing.T) {
	for _, ladder := range everyLadder() {
		for _, bad := range badCodes() {
			for level := range len(ladder) + 1 {
				if got, ok := impl.LadderCode(ladder, level, bad); ok || got != 0 {
					t.Errorf("LadderCode of %v, level %d, code %d is %d, %v", ladder, level, bad, got, ok)
				}
			}
			for _, p := range [][2]int{{bad, 0}, {bad, impl.Codes - 1}, {0, bad}, {impl.Codes - 1, bad}, {bad, bad}, {-1, bad}} {
				if got, ok := impl.LadderMerge(ladder, p[0], p[1]); ok || len(got) != 0 {
					t.Errorf("LadderMerge %v of %v is %v, %v", p, ladder, got, ok)
				}
			}
		}
	}
}

// TestLadderArgumentsStay looks at the room behind the lists, too: a function must not write there either.
func TestLadderArgumentsStay(t *testing.T) {
	for _, ladder := range slices.Concat(everyLadder(), invalidLadders()) {
		list, whole := roomy(ladder)
		before := toCapacity(whole)
		impl.LadderValid(list)
		for level := -1; level <= min(len(list), impl.StepsMax)+1; level++ {
			impl.LadderGroups(list, level)
			for code := -1; code <= impl.Codes; code++ {
				impl.LadderCode(list, level, code)
			}
		}
		for _, p := range slices.Concat(codePairs(), [][2]int{{-1, 0}, {0, impl.Codes}}) {
			impl.LadderMerge(list, p[0], p[1])
		}
		if !sameLadder(toCapacity(whole), before) {
			t.Fatalf("%v became %v", before, toCapacity(whole))
		}
	}
}

// TestLadderMergeIsNewMemory writes into all memory of each step of a result, and then of its list, and looks whether anything else changes.
func TestLadderMergeIsNewMemory(t *testing.T) {
	for _, ladder := range everyLadder() {
		for _, p := range codePairs() {
			list, whole := roomy(ladder)
			before := toCapacity(whole)
			merged, ok := impl.LadderMerge(list, p[0], p[1])
			if !ok {
				continue
			}
			again, _ := impl.LadderMerge(list, p[0], p[1])
			want := copied(again)
			for i := range merged {
				expect := copied(merged)
				fill(merged[i], -7)
				copy(expect[i], merged[i])
				if !sameLadder(merged, expect) {
					t.Fatalf("steps of LadderMerge %v of %v share their memory", p, ladder)
				}
			}
			clear(merged[:cap(merged)])
			if !sameLadder(toCapacity(whole), before) || !sameLadder(again, want) {
				t.Fatalf("LadderMerge %v of %v shares its memory", p, ladder)
			}
		}
	}
}
