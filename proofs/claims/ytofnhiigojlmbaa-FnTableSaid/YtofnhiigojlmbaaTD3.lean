/- The draws of chapter 11. -/
import Derived.Test.YtofnhiigojlmbaaTD2
namespace Go.Proofs.Ytofnhiigojlmbaa
open Go.RowKit
def DrawnTab (w : World) (e : Ending) (w' : World) : Prop := ∃ v t, e = .returned v ∧ IsR w' v t ∧ t.length ≤ 8 ∧ (∀ r ∈ t, r.length ≤ 4) ∧ Below w.heap.size w w'
def DrawnTabK (w : World) (e : Ending) (w' : World) : Prop := ∃ v t, ∃ k : Int, e = .returned (.tuple #[v, .int .i64 k]) ∧ IsR w' v t ∧ t.length ≤ 8 ∧ (∀ r ∈ t, r.length ≤ 4) ∧ (0 ≤ k ∧ k ≤ 6) ∧ Below w.heap.size w w'
def DrawnTabF (w : World) (e : Ending) (w' : World) : Prop := ∃ v t, ∃ a b : Int, e = .returned (.tuple #[v, .int .i64 a, .int .i64 b]) ∧ IsR w' v t ∧ t.length ≤ 8 ∧ (∀ r ∈ t, r.length ≤ 4) ∧ (-1 ≤ a ∧ a ≤ 8) ∧ (-1 ≤ b ∧ b ≤ 8) ∧ Below w.heap.size w w'
def DrawnPpl (w : World) (e : Ending) (w' : World) : Prop := ∃ v l, e = .returned v ∧ IsP w' v l ∧ l.length ≤ 12 ∧ (∀ p ∈ l, Bd p) ∧ Below w.heap.size w w'
set_option maxHeartbeats 1000000 in
theorem dTabOf_any (A : Option Addr) (n c : Nat) (hnc : n ≤ c) (hn : n ≤ maxLen) (w : World) (hb : Bytes w w.heap.size A n) :
    Calls Try.prog 13 #[.slice A n c] w (DrawnPpl w) := by
  go_enter Try.func13, Try.ntmps13
  go_wp2_with fail
  refine (l6Open_any A n c hnc hn _ hb).mono ?_
  rintro e w1 ⟨rfl, ⟨n', c', hr⟩, hb1⟩
  have hr1 : RdN w1 w.heap.size 0 := ⟨_, _, _, _, hr, Nat.le_refl _⟩
  clear hr hb
  have hR := hr1.lt
  have HB1 := Lib.hid hb1; clear hb1
  go_wp2_with fail
  refine (people_any 12 (by omega) w.heap.size 0 (by omega) _ hr1).mono ?_
  rintro e w2 ⟨l, v, rfl, ho2, hl, hbd, hr2, hg2⟩
  go_wp2
  go_ret
  exact ⟨v, l, rfl, ho2.isP', hl, hbd, HB1.out.trans (grown_old hg2 (Nat.le_refl _) (by omega))⟩
set_option maxHeartbeats 1000000 in
theorem dTabValid_any (A : Option Addr) (n c : Nat) (hnc : n ≤ c) (hn : n ≤ maxLen) (w : World) (hb : Bytes w w.heap.size A n) :
    Calls Try.prog 9 #[.slice A n c] w (DrawnTab w) := by
  go_enter Try.func9, Try.ntmps9
  go_wp2_with fail
  refine (l6Open_any A n c hnc hn _ hb).mono ?_
  rintro e w1 ⟨rfl, ⟨n', c', hr⟩, hb1⟩
  have hr1 : RdN w1 w.heap.size 0 := ⟨_, _, _, _, hr, Nat.le_refl _⟩
  clear hr hb
  have hR := hr1.lt
  have HB1 := Lib.hid hb1; clear hb1
  go_wp2_with fail
  refine (tab_any 20 (by omega) (by omega) w.heap.size 0 (by omega) _ hr1).mono ?_
  rintro e w2 ⟨v, t, rfl, ho2, hl, hrow, hr2, hg2⟩
  have HO2 := Lib.hid ho2
  have HG2 := Lib.hid hg2
  clear ho2 hg2
  go_wp2_with fail
  refine (pick_any 10 (by omega) (by omega) w.heap.size _ (by omega) _ hr2).mono ?_
  rintro e w3 ⟨x, rfl, x0, x1, hr3, hg3⟩
  have HB3 := Lib.hid (HB1.out.trans (grown_old (grown_trans HG2.out hg3) (Nat.le_refl _) (by omega)))
  have HO3 := Lib.hid (HO2.out.grown hg3 (by omega))
  have hz3 := (grown_trans HG2.out hg3).size
  clear hg3 HG2
  rcases (show x = 0 ∨ x ≠ 0 by omega) with hx | hx
  · subst hx
    have HO4 := Lib.hid HO3.out.own
    obtain ⟨_, _, hs, hown, hrws⟩ := HO3.out
    obtain ⟨A3, c3, hv3, g1, g2, hrow3, _⟩ := hown.form
    have hlen := hrws.1
    have hz3w : w.heap.size ≤ w3.heap.size := by omega
    have hh := hrws.heads
    rw [hlen] at hv3
    have HH := Lib.hid hh
    have HRW := Lib.hid hrow3
    subst hv3
    clear hh hrow3 hown hrws
    have hfin : ∀ (v' : Value) (w' : World), OwnLL w' w1.heap.size w1.heap.size v' (t ++ t) → w3.grownBy w' (Value.slice A3 t.length c3).ownBlock → DrawnTab w (.returned v') w' := fun v' w' h1 h2 => by
      obtain ⟨A5, c5, hv5, q1, q2, q3⟩ := h1.form
      refine ⟨v', t ++ t, rfl, ⟨A5, c5, hv5, q1, q2, q3⟩, by rw [List.length_append]; omega, fun r hr => by rcases List.mem_append.1 hr with h | h <;> exact hrow r h, ?_⟩
      exact HB3.out.grown h2 hz3w (fun b e => by have := (HO3.out.ob b e).1; omega)
    go_wp2_with (at_builtin
                 go_loud (refine appLL rfl (.tmp 12) (.tmp 13) rfl w1.heap.size w1.heap.size (.slice A3 t.length c3) t rfl HO4.out w3.heap.size A3 t.length c3 hs t rfl rfl HRW.out HH.out (by omega) (by omega) ?_)
                 intro v4 w4 ho4 hg4)
    go_ret
    exact hfin _ _ ho4 hg4
  · go_wp2
    go_ret
    exact ⟨v, t, rfl, HO3.out.is, by omega, hrow, HB3.out⟩
theorem two_cellN {W : World} {g : Nat} {a b : Int} {t : TypeId} (h : W.heap[g]? = some (.cells #[.int .i64 a, .int .i64 b] t (0, 0))) (y : Nat) (hy : y < 2) : ∃ z : Int, (z = a ∨ z = b) ∧ W.cell? ⟨g, y, none⟩ = some (.int .i64 z) := by
  rcases (show y = 0 ∨ y = 1 by omega) with rfl | rfl
  · exact ⟨a, .inl rfl, cell_of_row _ _ 0 _ _ _ h⟩
  · exact ⟨b, .inr rfl, cell_of_row _ _ 1 _ _ _ h⟩
end Go.Proofs.Ytofnhiigojlmbaa
