/- The draws of chapter 11. -/
import Derived.Test.YtcmnbodnjemjoaaTD2
namespace Go.Proofs.Ytcmnbodnjemjoaa
open Go.RowKit
def DrawnTab (w : World) (e : Ending) (w' : World) : Prop := ∃ v t, e = .returned v ∧ IsR w' v t ∧ t.length ≤ 8 ∧ (∀ r ∈ t, r.length ≤ 4) ∧ Below w.heap.size w w'
def DrawnTabK (w : World) (e : Ending) (w' : World) : Prop := ∃ v t, ∃ k : Int, e = .returned (.tuple #[v, .int .i64 k]) ∧ IsR w' v t ∧ t.length ≤ 8 ∧ (∀ r ∈ t, r.length ≤ 4) ∧ (0 ≤ k ∧ k ≤ 6) ∧ Below w.heap.size w w'
def DrawnTabF (w : World) (e : Ending) (w' : World) : Prop := ∃ v t, ∃ a b : Int, e = .returned (.tuple #[v, .int .i64 a, .int .i64 b]) ∧ IsR w' v t ∧ t.length ≤ 8 ∧ (∀ r ∈ t, r.length ≤ 4) ∧ (-1 ≤ a ∧ a ≤ 8) ∧ (-1 ≤ b ∧ b ≤ 8) ∧ Below w.heap.size w w'
set_option maxHeartbeats 1000000 in
theorem dTabSums_any (A : Option Addr) (n c : Nat) (hnc : n ≤ c) (hn : n ≤ maxLen) (w : World) (hb : Bytes w w.heap.size A n) :
    Calls Try.prog 18 #[.slice A n c] w (DrawnTab w) := by
  go_enter Try.func18, Try.ntmps18
  go_wp2_with fail
  refine (l6Open_any A n c hnc hn _ hb).mono ?_
  rintro e w1 ⟨rfl, ⟨n', c', hr⟩, hb1⟩
  have hr1 : RdN w1 w.heap.size 0 := ⟨_, _, _, _, hr, Nat.le_refl _⟩
  clear hr hb
  have hR := hr1.lt
  have HB1 := Lib.hid hb1; clear hb1
  go_wp2_with fail
  refine (tab_any 30 (by omega) (by omega) w.heap.size 0 (by omega) _ hr1).mono ?_
  rintro e w2 ⟨v, t, rfl, ho2, hl, hrow, hr2, hg2⟩
  go_wp2
  go_ret
  exact ⟨v, t, rfl, ho2.is, by omega, hrow, HB1.out.trans (grown_old hg2 (Nat.le_refl _) (by omega))⟩
set_option maxHeartbeats 1000000 in
theorem dTabTotal_any (A : Option Addr) (n c : Nat) (hnc : n ≤ c) (hn : n ≤ maxLen) (w : World) (hb : Bytes w w.heap.size A n) :
    Calls Try.prog 28 #[.slice A n c] w (DrawnTab w) := by
  go_enter Try.func28, Try.ntmps28
  go_wp2_with fail
  refine (l6Open_any A n c hnc hn _ hb).mono ?_
  rintro e w1 ⟨rfl, ⟨n', c', hr⟩, hb1⟩
  have hr1 : RdN w1 w.heap.size 0 := ⟨_, _, _, _, hr, Nat.le_refl _⟩
  clear hr hb
  have hR := hr1.lt
  have HB1 := Lib.hid hb1; clear hb1
  go_wp2_with fail
  refine (tab_any 30 (by omega) (by omega) w.heap.size 0 (by omega) _ hr1).mono ?_
  rintro e w2 ⟨v, t, rfl, ho2, hl, hrow, hr2, hg2⟩
  go_wp2
  go_ret
  exact ⟨v, t, rfl, ho2.is, by omega, hrow, HB1.out.trans (grown_old hg2 (Nat.le_refl _) (by omega))⟩
set_option maxHeartbeats 1000000 in
theorem dTabTurn_any (A : Option Addr) (n c : Nat) (hnc : n ≤ c) (hn : n ≤ maxLen) (w : World) (hb : Bytes w w.heap.size A n) :
    Calls Try.prog 25 #[.slice A n c] w (DrawnTab w) := by
  go_enter Try.func25, Try.ntmps25
  go_wp2_with fail
  refine (l6Open_any A n c hnc hn _ hb).mono ?_
  rintro e w1 ⟨rfl, ⟨n', c', hr⟩, hb1⟩
  have hr1 : RdN w1 w.heap.size 0 := ⟨_, _, _, _, hr, Nat.le_refl _⟩
  clear hr hb
  have hR := hr1.lt
  have HB1 := Lib.hid hb1; clear hb1
  go_wp2_with fail
  refine (tab_any 30 (by omega) (by omega) w.heap.size 0 (by omega) _ hr1).mono ?_
  rintro e w2 ⟨v, t, rfl, ho2, hl, hrow, hr2, hg2⟩
  go_wp2
  go_ret
  exact ⟨v, t, rfl, ho2.is, by omega, hrow, HB1.out.trans (grown_old hg2 (Nat.le_refl _) (by omega))⟩
set_option maxHeartbeats 1000000 in
theorem dMaskSmall_any (A : Option Addr) (n c : Nat) (hnc : n ≤ c) (hn : n ≤ maxLen) (w : World) (hb : Bytes w w.heap.size A n) :
    Calls Try.prog 37 #[.slice A n c] w (DrawnTabK w) := by
  go_enter Try.func37, Try.ntmps37
  go_wp2_with fail
  refine (l6Open_any A n c hnc hn _ hb).mono ?_
  rintro e w1 ⟨rfl, ⟨n', c', hr⟩, hb1⟩
  have hr1 : RdN w1 w.heap.size 0 := ⟨_, _, _, _, hr, Nat.le_refl _⟩
  clear hr hb
  have hR := hr1.lt
  have HB1 := Lib.hid hb1; clear hb1
  go_wp2_with fail
  refine (tab_any 8 (by omega) (by omega) w.heap.size 0 (by omega) _ hr1).mono ?_
  rintro e w2 ⟨v, t, rfl, ho2, hl, hrow, hr2, hg2⟩
  have HO2 := Lib.hid ho2
  have HG2 := Lib.hid hg2
  clear ho2 hg2
  go_wp2_with fail
  refine (pick_any 7 (by omega) (by omega) w.heap.size _ (by omega) _ hr2).mono ?_
  rintro e w3 ⟨x, rfl, x0, x1, hr3, hg3⟩
  have HB3 := Lib.hid (HB1.out.trans (grown_old (grown_trans HG2.out hg3) (Nat.le_refl _) (by omega)))
  have HO3 := Lib.hid (HO2.out.grown hg3 (by omega))
  clear hg3 HG2
  go_wp2
  go_ret2
  exact ⟨v, t, x, rfl, HO3.out.is, by omega, hrow, ⟨x0, by omega⟩, HB3.out⟩
set_option maxHeartbeats 1000000 in
theorem dTabValid_any (A : Option Addr) (n c : Nat) (hnc : n ≤ c) (hn : n ≤ maxLen) (w : World) (hb : Bytes w w.heap.size A n) :
    Calls Try.prog 14 #[.slice A n c] w (DrawnTab w) := by
  go_enter Try.func14, Try.ntmps14
  go_wp2_with fail
  refine (l6Open_any A n c hnc hn _ hb).mono ?_
  rintro e w1 ⟨rfl, ⟨n', c', hr⟩, hb1⟩
  have hr1 : RdN w1 w.heap.size 0 := ⟨_, _, _, _, hr, Nat.le_refl _⟩
  clear hr hb
  have hR := hr1.lt
  have HB1 := Lib.hid hb1; clear hb1
  go_wp2_with fail
  refine (tab_any 20 (by omega) (by omega) w.heap.size 0 (by omega) _ hr1).mono ?_
  rintro e w2 ⟨v, t, rfl, ho2, hl, hrow, hr2, hg2⟩
  have HO2 := Lib.hid ho2
  have HG2 := Lib.hid hg2
  clear ho2 hg2
  go_wp2_with fail
  refine (pick_any 10 (by omega) (by omega) w.heap.size _ (by omega) _ hr2).mono ?_
  rintro e w3 ⟨x, rfl, x0, x1, hr3, hg3⟩
  have HB3 := Lib.hid (HB1.out.trans (grown_old (grown_trans HG2.out hg3) (Nat.le_refl _) (by omega)))
  have HO3 := Lib.hid (HO2.out.grown hg3 (by omega))
  have hz3 := (grown_trans HG2.out hg3).size
  clear hg3 HG2
  rcases (show x = 0 ∨ x ≠ 0 by omega) with hx | hx
  · subst hx
    have HO4 := Lib.hid HO3.out.own
    obtain ⟨_, _, hs, hown, hrws⟩ := HO3.out
    obtain ⟨A3, c3, hv3, g1, g2, hrow3, _⟩ := hown.form
    have hlen := hrws.1
    have hz3w : w.heap.size ≤ w3.heap.size := by omega
    have hh := hrws.heads
    rw [hlen] at hv3
    have HH := Lib.hid hh
    have HRW := Lib.hid hrow3
    subst hv3
    clear hh hrow3 hown hrws
    have hfin : ∀ (v' : Value) (w' : World), OwnLL w' w1.heap.size w1.heap.size v' (t ++ t) → w3.grownBy w' (Value.slice A3 t.length c3).ownBlock → DrawnTab w (.returned v') w' := fun v' w' h1 h2 => by
      obtain ⟨A5, c5, hv5, q1, q2, q3⟩ := h1.form
      refine ⟨v', t ++ t, rfl, ⟨A5, c5, hv5, q1, q2, q3⟩, by rw [List.length_append]; omega, fun r hr => by rcases List.mem_append.1 hr with h | h <;> exact hrow r h, ?_⟩
      exact HB3.out.grown h2 hz3w (fun b e => by have := (HO3.out.ob b e).1; omega)
    go_wp2_with (at_builtin
                 go_loud (refine appLL rfl (.tmp 12) (.tmp 13) rfl w1.heap.size w1.heap.size (.slice A3 t.length c3) t rfl HO4.out w3.heap.size A3 t.length c3 hs t rfl rfl HRW.out HH.out (by omega) (by omega) ?_)
                 intro v4 w4 ho4 hg4)
    go_ret
    exact hfin _ _ ho4 hg4
  · go_wp2
    go_ret
    exact ⟨v, t, rfl, HO3.out.is, by omega, hrow, HB3.out⟩
theorem two_cellN {W : World} {g : Nat} {a b : Int} {t : TypeId} (h : W.heap[g]? = some (.cells #[.int .i64 a, .int .i64 b] t (0, 0))) (y : Nat) (hy : y < 2) : ∃ z : Int, (z = a ∨ z = b) ∧ W.cell? ⟨g, y, none⟩ = some (.int .i64 z) := by
  rcases (show y = 0 ∨ y = 1 by omega) with rfl | rfl
  · exact ⟨a, .inl rfl, cell_of_row _ _ 0 _ _ _ h⟩
  · exact ⟨b, .inr rfl, cell_of_row _ _ 1 _ _ _ h⟩
set_option maxHeartbeats 4000000 in
theorem dTabFold_any (A : Option Addr) (n c : Nat) (hnc : n ≤ c) (hn : n ≤ maxLen) (w : World) (hb : Bytes w w.heap.size A n) :
    Calls Try.prog 42 #[.slice A n c] w (DrawnTabF w) := by
  go_enter Try.func42, Try.ntmps42
  go_wp2_with fail
  refine (l6Open_any A n c hnc hn _ hb).mono ?_
  rintro e w1 ⟨rfl, ⟨n', c', hr⟩, hb1⟩
  have hr1 : RdN w1 w.heap.size 0 := ⟨_, _, _, _, hr, Nat.le_refl _⟩
  clear hr hb
  have hR := hr1.lt
  have HB1 := Lib.hid hb1; clear hb1
  go_wp2_with fail
  refine (pick_any 2 (by omega) (by omega) w.heap.size 0 (by omega) _ (hr1.alloc _)).mono ?_
  rintro e w2 ⟨y, rfl, y0, y1, hr2, hg2⟩
  obtain ⟨y, rfl⟩ := Int.eq_ofNat_of_zero_le y0
  obtain ⟨z, hz, hzc⟩ := two_cellN (new_block hg2 hR) y (by omega)
  have HG2 := Lib.hid (grown_trans (World.grownBy_alloc w1 _ (some w.heap.size)) hg2)
  have hz1 : w.heap.size ≤ w1.heap.size := Nat.le_of_lt hR
  clear hg2 hr1
  go_wp2_with fail
  refine (tab_any z (by omega) (by omega) w.heap.size (0 + 1) (by omega) _ hr2).mono ?_
  rintro e w3 ⟨v, t, rfl, ho3, hl, hrow, hr3, hg3⟩
  have hz2 := HG2.out.size
  have hR1 : w.heap.size < w2.heap.size := by omega
  have HO3 := Lib.hid ho3
  have HG3 := Lib.hid (grown_trans HG2.out hg3)
  have hz3 := HG3.out.size
  obtain ⟨A3, c3, hv3, _, _, _⟩ := ho3.is
  subst hv3
  clear ho3 hg3 hzc hz hr2
  by_cases hl2 : t.length < 2
  · have hl2' : (t.length : Int) < 2 := by omega
    go_wp2_with fail
    refine (pick_any 3 (by omega) (by omega) w.heap.size (0 + 1 + 24) (by omega) _ hr3).mono ?_
    rintro e w5 ⟨a, rfl, a0, a1, hr5, hg5⟩
    go_wp2_with fail
    refine (pick_any 5 (by omega) (by omega) w.heap.size ((0 + 1 + 24) + 1) (by omega) _ hr5).mono ?_
    rintro e w6 ⟨b, rfl, b0, b1, hr6, hg6⟩
    have HG6 := Lib.hid (grown_trans HG3.out (grown_trans hg5 hg6))
    have HO6 := Lib.hid ((HO3.out.grown hg5 hR1).grown hg6 hR1)
    clear hg5 hg6 hr5 hr6
    go_wp2
    refine bodyPost_ret (results_tmp3 rfl _ _ _) rfl ?_
    exact ⟨_, t, a, b - 1, rfl, HO6.out.is, by omega, hrow, ⟨by omega, by omega⟩, ⟨by omega, by omega⟩, HB1.out.trans (grown_old HG6.out (Nat.le_refl _) hz1)⟩
  · have hl2' : ¬ (t.length : Int) < 2 := by omega
    go_wp2_with fail
    refine (pick_any 16 (by omega) (by omega) w.heap.size (0 + 1 + 24) (by omega) _ hr3).mono ?_
    rintro e w4 ⟨x, rfl, x0, x1, hr4, hg4⟩
    have HO4 := Lib.hid (HO3.out.grown hg4 hR1)
    have HG4 := Lib.hid (grown_trans HG3.out hg4)
    have hz4 := HG4.out.size
    clear hg4 hr3 HO3 HG3
    rcases (show x = 0 ∨ x ≠ 0 by omega) with hx | hx
    · subst hx
      go_wp2_with fail
      refine (pick_any 3 (by omega) (by omega) w.heap.size (0 + 1 + 24 + 1) (by omega) _ hr4).mono ?_
      rintro e w5 ⟨a, rfl, a0, a1, hr5, hg5⟩
      go_wp2_with fail
      refine (pick_any 5 (by omega) (by omega) w.heap.size ((0 + 1 + 24 + 1) + 1) (by omega) _ hr5).mono ?_
      rintro e w6 ⟨b, rfl, b0, b1, hr6, hg6⟩
      have HG6 := Lib.hid (grown_trans HG4.out (grown_trans hg5 hg6))
      have HO6 := Lib.hid ((HO4.out.grown hg5 hR1).grown hg6 hR1)
      clear hg5 hg6 hr5 hr6
      go_wp2
      refine bodyPost_ret (results_tmp3 rfl _ _ _) rfl ?_
      exact ⟨_, t, a, b - 1, rfl, HO6.out.is, by omega, hrow, ⟨by omega, by omega⟩, ⟨by omega, by omega⟩, HB1.out.trans (grown_old HG6.out (Nat.le_refl _) hz1)⟩
    · have hx' : (x == 0) = false := by rw [beq_eq_false_iff_ne]; exact hx
      have hc1 : decide ((t.length : Int) < 2) = false := decide_eq_false (by omega)
      have hw1 : IntKind.i64.wrap ((t.length : Int) - 1) = (t.length : Int) - 1 := by rw [IntKind.wrap_i64]; omega
      go_wp2_with fail
      refine (pick_any ((t.length : Int) - 1) (by omega) (by omega) w.heap.size (0 + 1 + 24 + 1) (by omega) _ hr4).mono ?_
      rintro e w5 ⟨b, rfl, b0, b1, hr5, hg5⟩
      go_wp2_with fail
      refine (pick_any (1 + b) (by omega) (by omega) w.heap.size (0 + 1 + 24 + 1 + 1) (by omega) _ hr5).mono ?_
      rintro e w6 ⟨a, rfl, a0, a1, hr6, hg6⟩
      have HG6 := Lib.hid (grown_trans HG4.out (grown_trans hg5 hg6))
      have HO6 := Lib.hid ((HO4.out.grown hg5 hR1).grown hg6 hR1)
      clear hg5 hg6 hr5 hr6
      go_wp2
      refine bodyPost_ret (results_tmp3 rfl _ _ _) rfl ?_
      exact ⟨_, t, a, 1 + b, rfl, HO6.out.is, by omega, hrow, ⟨by omega, by omega⟩, ⟨by omega, by omega⟩, HB1.out.trans (grown_old HG6.out (Nat.le_refl _) hz1)⟩
end Go.Proofs.Ytcmnbodnjemjoaa
