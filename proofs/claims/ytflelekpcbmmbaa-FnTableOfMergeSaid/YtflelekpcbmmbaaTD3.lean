/- The draws of chapter 11. -/
import Derived.Test.YtflelekpcbmmbaaTD2
namespace Go.Proofs.Ytflelekpcbmmbaa
open Go.RowKit
def DrawnTab (w : World) (e : Ending) (w' : World) : Prop := ∃ v t, e = .returned v ∧ IsR w' v t ∧ t.length ≤ 8 ∧ (∀ r ∈ t, r.length ≤ 4) ∧ Below w.heap.size w w'
def DrawnTabK (w : World) (e : Ending) (w' : World) : Prop := ∃ v t, ∃ k : Int, e = .returned (.tuple #[v, .int .i64 k]) ∧ IsR w' v t ∧ t.length ≤ 8 ∧ (∀ r ∈ t, r.length ≤ 4) ∧ (0 ≤ k ∧ k ≤ 6) ∧ Below w.heap.size w w'
def DrawnTabF (w : World) (e : Ending) (w' : World) : Prop := ∃ v t, ∃ a b : Int, e = .returned (.tuple #[v, .int .i64 a, .int .i64 b]) ∧ IsR w' v t ∧ t.length ≤ 8 ∧ (∀ r ∈ t, r.length ≤ 4) ∧ (-1 ≤ a ∧ a ≤ 8) ∧ (-1 ≤ b ∧ b ≤ 8) ∧ Below w.heap.size w w'
def DrawnPpl (w : World) (e : Ending) (w' : World) : Prop := ∃ v l, e = .returned v ∧ IsP w' v l ∧ l.length ≤ 12 ∧ (∀ p ∈ l, Bd p) ∧ Below w.heap.size w w'
set_option maxHeartbeats 1000000 in
theorem dTabOf_any (A : Option Addr) (n c : Nat) (hnc : n ≤ c) (hn : n ≤ maxLen) (w : World) (hb : Bytes w w.heap.size A n) :
    Calls Try.prog 8 #[.slice A n c] w (DrawnPpl w) := by
  go_enter Try.func8, Try.ntmps8
  go_wp2_with fail
  refine (l6Open_any A n c hnc hn _ hb).mono ?_
  rintro e w1 ⟨rfl, ⟨n', c', hr⟩, hb1⟩
  have hr1 : RdN w1 w.heap.size 0 := ⟨_, _, _, _, hr, Nat.le_refl _⟩
  clear hr hb
  have hR := hr1.lt
  have HB1 := Lib.hid hb1; clear hb1
  go_wp2_with fail
  refine (people_any 12 (by omega) w.heap.size 0 (by omega) _ hr1).mono ?_
  rintro e w2 ⟨l, v, rfl, ho2, hl, hbd, hr2, hg2⟩
  go_wp2
  go_ret
  exact ⟨v, l, rfl, ho2.isP', hl, hbd, HB1.out.trans (grown_old hg2 (Nat.le_refl _) (by omega))⟩
theorem two_cellN {W : World} {g : Nat} {a b : Int} {t : TypeId} (h : W.heap[g]? = some (.cells #[.int .i64 a, .int .i64 b] t (0, 0))) (y : Nat) (hy : y < 2) : ∃ z : Int, (z = a ∨ z = b) ∧ W.cell? ⟨g, y, none⟩ = some (.int .i64 z) := by
  rcases (show y = 0 ∨ y = 1 by omega) with rfl | rfl
  · exact ⟨a, .inl rfl, cell_of_row _ _ 0 _ _ _ h⟩
  · exact ⟨b, .inr rfl, cell_of_row _ _ 1 _ _ _ h⟩
set_option maxHeartbeats 4000000 in
theorem dTabFold_any (A : Option Addr) (n c : Nat) (hnc : n ≤ c) (hn : n ≤ maxLen) (w : World) (hb : Bytes w w.heap.size A n) :
    Calls Try.prog 17 #[.slice A n c] w (DrawnTabF w) := by
  go_enter Try.func17, Try.ntmps17
  go_wp2_with fail
  refine (l6Open_any A n c hnc hn _ hb).mono ?_
  rintro e w1 ⟨rfl, ⟨n', c', hr⟩, hb1⟩
  have hr1 : RdN w1 w.heap.size 0 := ⟨_, _, _, _, hr, Nat.le_refl _⟩
  clear hr hb
  have hR := hr1.lt
  have HB1 := Lib.hid hb1; clear hb1
  go_wp2_with fail
  refine (pick_any 2 (by omega) (by omega) w.heap.size 0 (by omega) _ (hr1.alloc _)).mono ?_
  rintro e w2 ⟨y, rfl, y0, y1, hr2, hg2⟩
  obtain ⟨y, rfl⟩ := Int.eq_ofNat_of_zero_le y0
  obtain ⟨z, hz, hzc⟩ := two_cellN (new_block hg2 hR) y (by omega)
  have HG2 := Lib.hid (grown_trans (World.grownBy_alloc w1 _ (some w.heap.size)) hg2)
  have hz1 : w.heap.size ≤ w1.heap.size := Nat.le_of_lt hR
  clear hg2 hr1
  go_wp2_with fail
  refine (tab_any z (by omega) (by omega) w.heap.size (0 + 1) (by omega) _ hr2).mono ?_
  rintro e w3 ⟨v, t, rfl, ho3, hl, hrow, hr3, hg3⟩
  have hz2 := HG2.out.size
  have hR1 : w.heap.size < w2.heap.size := by omega
  have HO3 := Lib.hid ho3
  have HG3 := Lib.hid (grown_trans HG2.out hg3)
  have hz3 := HG3.out.size
  obtain ⟨A3, c3, hv3, _, _, _⟩ := ho3.is
  subst hv3
  clear ho3 hg3 hzc hz hr2
  by_cases hl2 : t.length < 2
  · have hl2' : (t.length : Int) < 2 := by omega
    go_wp2_with fail
    refine (pick_any 3 (by omega) (by omega) w.heap.size (0 + 1 + 24) (by omega) _ hr3).mono ?_
    rintro e w5 ⟨a, rfl, a0, a1, hr5, hg5⟩
    go_wp2_with fail
    refine (pick_any 5 (by omega) (by omega) w.heap.size ((0 + 1 + 24) + 1) (by omega) _ hr5).mono ?_
    rintro e w6 ⟨b, rfl, b0, b1, hr6, hg6⟩
    have HG6 := Lib.hid (grown_trans HG3.out (grown_trans hg5 hg6))
    have HO6 := Lib.hid ((HO3.out.grown hg5 hR1).grown hg6 hR1)
    clear hg5 hg6 hr5 hr6
    go_wp2
    refine bodyPost_ret (results_tmp3 rfl _ _ _) rfl ?_
    exact ⟨_, t, a, b - 1, rfl, HO6.out.is, by omega, hrow, ⟨by omega, by omega⟩, ⟨by omega, by omega⟩, HB1.out.trans (grown_old HG6.out (Nat.le_refl _) hz1)⟩
  · have hl2' : ¬ (t.length : Int) < 2 := by omega
    go_wp2_with fail
    refine (pick_any 16 (by omega) (by omega) w.heap.size (0 + 1 + 24) (by omega) _ hr3).mono ?_
    rintro e w4 ⟨x, rfl, x0, x1, hr4, hg4⟩
    have HO4 := Lib.hid (HO3.out.grown hg4 hR1)
    have HG4 := Lib.hid (grown_trans HG3.out hg4)
    have hz4 := HG4.out.size
    clear hg4 hr3 HO3 HG3
    rcases (show x = 0 ∨ x ≠ 0 by omega) with hx | hx
    · subst hx
      go_wp2_with fail
      refine (pick_any 3 (by omega) (by omega) w.heap.size (0 + 1 + 24 + 1) (by omega) _ hr4).mono ?_
      rintro e w5 ⟨a, rfl, a0, a1, hr5, hg5⟩
      go_wp2_with fail
      refine (pick_any 5 (by omega) (by omega) w.heap.size ((0 + 1 + 24 + 1) + 1) (by omega) _ hr5).mono ?_
      rintro e w6 ⟨b, rfl, b0, b1, hr6, hg6⟩
      have HG6 := Lib.hid (grown_trans HG4.out (grown_trans hg5 hg6))
      have HO6 := Lib.hid ((HO4.out.grown hg5 hR1).grown hg6 hR1)
      clear hg5 hg6 hr5 hr6
      go_wp2
      refine bodyPost_ret (results_tmp3 rfl _ _ _) rfl ?_
      exact ⟨_, t, a, b - 1, rfl, HO6.out.is, by omega, hrow, ⟨by omega, by omega⟩, ⟨by omega, by omega⟩, HB1.out.trans (grown_old HG6.out (Nat.le_refl _) hz1)⟩
    · have hx' : (x == 0) = false := by rw [beq_eq_false_iff_ne]; exact hx
      have hc1 : decide ((t.length : Int) < 2) = false := decide_eq_false (by omega)
      have hw1 : IntKind.i64.wrap ((t.length : Int) - 1) = (t.length : Int) - 1 := by rw [IntKind.wrap_i64]; omega
      go_wp2_with fail
      refine (pick_any ((t.length : Int) - 1) (by omega) (by omega) w.heap.size (0 + 1 + 24 + 1) (by omega) _ hr4).mono ?_
      rintro e w5 ⟨b, rfl, b0, b1, hr5, hg5⟩
      go_wp2_with fail
      refine (pick_any (1 + b) (by omega) (by omega) w.heap.size (0 + 1 + 24 + 1 + 1) (by omega) _ hr5).mono ?_
      rintro e w6 ⟨a, rfl, a0, a1, hr6, hg6⟩
      have HG6 := Lib.hid (grown_trans HG4.out (grown_trans hg5 hg6))
      have HO6 := Lib.hid ((HO4.out.grown hg5 hR1).grown hg6 hR1)
      clear hg5 hg6 hr5 hr6
      go_wp2
      refine bodyPost_ret (results_tmp3 rfl _ _ _) rfl ?_
      exact ⟨_, t, a, 1 + b, rfl, HO6.out.is, by omega, hrow, ⟨by omega, by omega⟩, ⟨by omega, by omega⟩, HB1.out.trans (grown_old HG6.out (Nat.le_refl _) hz1)⟩
end Go.Proofs.Ytflelekpcbmmbaa
