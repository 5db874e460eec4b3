import Derived.Test.YtoomcnlklkhjaaaT9
namespace Go.Proofs.Ytoomcnlklkhjaaa
open Go.RowKit
theorem res4 {fn : Func} {t u v x : Tmp} (h : fn.results = #[.tmp t, .tmp u, .tmp v, .tmp x]) (tmps : Array Value) (P : Program) (w : World) :
    (results fn tmps).run P w = .ok (.tuple #[tmps.getD t undef, tmps.getD u undef, tmps.getD v undef, tmps.getD x undef]) w := by simp [results, h]
/-- People, a code of area, of job, of sex, somewhere in new memory. -/
def DrawnMany (w : World) (e : Ending) (w' : World) : Prop :=
  ∃ l A c, ∃ a j s : Int, e = .returned (.tuple #[.slice A l.length c, .int .i64 a, .int .i64 j, .int .i64 s]) ∧ Row w' w'.heap.size A (pcells l) ∧ l.length ≤ 10 ∧ l.length ≤ c ∧ c ≤ maxLen ∧ (∀ p ∈ l, Bd p) ∧ -2 ≤ a ∧ a ≤ 4 ∧ -2 ≤ j ∧ j ≤ 4 ∧ -2 ≤ s ∧ s ≤ 2 ∧ Below w.heap.size w w'
theorem drawMany_end {w w1 w6 : World} {v : Value} {l : List Pn} {a j s : Int} (hb : Below w.heap.size w w1) (hg : w1.grownBy w6 (some w.heap.size)) (hR : w.heap.size < w1.heap.size) (ho : Own w6 w1.heap.size v l)
    (hl : l.length ≤ 10) (hp : ∀ p ∈ l, Bd p) (a0 : -2 ≤ a) (a1 : a ≤ 4) (j0 : -2 ≤ j) (j1 : j ≤ 4) (s0 : -2 ≤ s) (s1 : s ≤ 2) :
    DrawnMany w (.returned (.tuple #[v, .int .i64 a, .int .i64 j, .int .i64 s])) w6 := by
  obtain ⟨A, c, rfl, hc1, hc2, hrow, _⟩ := ho.form
  exact ⟨l, A, c, a, j, s, rfl, hrow, hl, hc1, hc2, hp, a0, a1, j0, j1, s0, s1, hb.trans (grown_old hg (Nat.le_refl _) (by omega))⟩
theorem drawMany_any (A : Option Addr) (n c : Nat) (hnc : n ≤ c) (hn : n ≤ maxLen) (w : World) (hb : Bytes w w.heap.size A n) :
    Calls Try.prog 13 #[.slice A n c] w (DrawnMany w) := by
  go_enter Try.func13, Try.ntmps13
  go_wp2_with fail
  refine (l6Open_any A n c hnc hn _ hb).mono ?_
  rintro e w1 ⟨rfl, ⟨n', c', hr⟩, hb1⟩
  have hr1 : RdN w1 w.heap.size 0 := ⟨_, _, _, _, hr, Nat.le_refl _⟩
  clear hr hb
  have hR := hr1.lt
  go_wp2_with fail
  refine (people_any 10 (by omega) w.heap.size 0 (by omega) _ hr1).mono ?_
  rintro e w2 ⟨l, v, rfl, ho2, hl, hbd, hr2, hg2⟩
  have HB := Lib.hid hbd; clear hbd
  go_wp2_with fail
  refine (ask_any 4 (by omega) (by omega) w.heap.size _ (by omega) _ hr2).mono ?_
  rintro e w3 ⟨a, rfl, a0, a1, hr3, hg3⟩
  go_wp2_with fail
  refine (ask_any 4 (by omega) (by omega) w.heap.size _ (by omega) _ hr3).mono ?_
  rintro e w4 ⟨j, rfl, j0, j1, hr4, hg4⟩
  go_wp2_with fail
  refine (pick_any 3 (by omega) (by omega) w.heap.size _ (by omega) _ hr4).mono ?_
  rintro e w5 ⟨x, rfl, x0, x1, hr5, hg5⟩
  have HO := Lib.hid (((ho2.kept hg3 hR).kept hg4 hR).kept hg5 hR)
  have HG := Lib.hid (grown_trans (grown_trans (grown_trans hg2 hg3) hg4) hg5)
  have HB1 := Lib.hid hb1
  clear ho2 hg2 hg3 hg4 hg5 hr1 hr2 hr3 hr4 hb1
  by_cases hx : 0 < x
  · go_wp2_with fail
    refine (ask_any 2 (by omega) (by omega) w.heap.size _ (by omega) _ hr5).mono ?_
    rintro e w6 ⟨s, rfl, s0, s1, hr6, hg6⟩
    go_wp2
    refine bodyPost_ret (res4 rfl _ _ _) rfl ?_
    exact drawMany_end HB1.out (grown_trans HG.out hg6) hR (HO.out.kept hg6 hR) hl HB.out a0 a1 (by omega) (by omega) s0 s1
  · go_wp2_with fail
    refine (ask_any 2 (by omega) (by omega) w.heap.size _ (by omega) _ hr5).mono ?_
    rintro e w6 ⟨s, rfl, s0, s1, hr6, hg6⟩
    go_wp2
    refine bodyPost_ret (res4 rfl _ _ _) rfl ?_
    exact drawMany_end HB1.out (grown_trans HG.out hg6) hR (HO.out.kept hg6 hR) hl HB.out a0 a1 j0 j1 s0 s1
theorem drawPay_any (A : Option Addr) (n c : Nat) (hnc : n ≤ c) (hn : n ≤ maxLen) (w : World) (hb : Bytes w w.heap.size A n) :
    Calls Try.prog 16 #[.slice A n c] w (DrawnMany w) := by
  go_enter Try.func16, Try.ntmps16
  go_wp2_with fail
  refine (drawMany_any A n c hnc hn _ hb).mono ?_
  rintro e w1 ⟨l, A', c', a, j, s, rfl, h⟩
  have H := Lib.hid h; clear h hb
  go_wp2
  refine bodyPost_ret (res4 rfl _ _ _) rfl ?_
  exact ⟨l, A', c', a, j, s, rfl, H.out⟩
def DrawnBand (w : World) (e : Ending) (w' : World) : Prop := ∃ x : Int, e = .returned (.int .i64 x) ∧ -1 ≤ x ∧ x ≤ 1000 ∧ Below w.heap.size w w'
theorem drawBand_any (A : Option Addr) (n c : Nat) (hnc : n ≤ c) (hn : n ≤ maxLen) (w : World) (hb : Bytes w w.heap.size A n) :
    Calls Try.prog 19 #[.slice A n c] w (DrawnBand w) := by
  go_enter Try.func19, Try.ntmps19
  go_wp2_with fail
  refine (l6Open_any A n c hnc hn _ hb).mono ?_
  rintro e w1 ⟨rfl, ⟨n', c', hr⟩, hb1⟩
  have hr1 : RdN w1 w.heap.size 0 := ⟨_, _, _, _, hr, Nat.le_refl _⟩
  clear hr hb
  have hR := hr1.lt
  go_wp2_with fail
  refine (pick_any 10 (by omega) (by omega) w.heap.size 0 (by omega) _ hr1).mono ?_
  rintro e w2 ⟨x, rfl, x0, x1, hr2, hg2⟩
  have hR2 := hr2.lt
  by_cases hx : x = 0
  · subst hx
    go_wp2_with fail
    refine (pick_any 3 (by omega) (by omega) w.heap.size _ (by omega) _ (hr2.alloc _)).mono ?_
    rintro e w3 ⟨y, rfl, y0, y1, hr3, hg3⟩
    have hb := new_block hg3 hR2
    have hc0 : w3.cell? ⟨w2.heap.size, 0, none⟩ = some (.int .i64 (-1)) := cell_of_row w3 _ 0 _ _ _ hb
    have hc1 : w3.cell? ⟨w2.heap.size, 1, none⟩ = some (.int .i64 1000) := cell_of_row w3 _ 1 _ _ _ hb
    have hc2 : w3.cell? ⟨w2.heap.size, 2, none⟩ = some (.int .i64 999) := cell_of_row w3 _ 2 _ _ _ hb
    have HE := Lib.hid (hb1.trans (grown_old (grown_trans (grown_alloc hg2 _) hg3) (Nat.le_refl _) (by omega)))
    clear hb hr1 hr2 hr3 hg2 hg3 hb1
    rcases (show y = 0 ∨ y = 1 ∨ y = 2 by omega) with rfl | rfl | rfl
    all_goals
      go_wp2
      go_ret
      exact ⟨_, rfl, by omega, by omega, HE.out⟩
  · go_wp2_with fail
    refine (pick_any 200 (by omega) (by omega) w.heap.size _ (by omega) _ hr2).mono ?_
    rintro e w3 ⟨y, rfl, y0, y1, hr3, hg3⟩
    have HE := Lib.hid (hb1.trans (grown_old (grown_trans hg2 hg3) (Nat.le_refl _) (by omega)))
    clear hr1 hr2 hr3 hg2 hg3 hb1
    go_wp2
    go_ret
    exact ⟨y * 5, rfl, by omega, by omega, HE.out⟩
end Go.Proofs.Ytoomcnlklkhjaaa
