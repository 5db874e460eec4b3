/- The draws of masks. -/
import Derived.Test.YtcmnbodnjemjoaaTD4
namespace Go.Proofs.Ytcmnbodnjemjoaa
open Go.RowKit
theorem MineB.heads {w : World} {B T : Nat} {v : Value} {t : List (List Bool)} (h : MineB w B T v t) (h0 : 0 < t.length) :
    ∃ g c, v = .slice (some ⟨g, 0, none⟩) t.length c ∧ B ≤ g ∧ g < T ∧ ∀ k, k < t.length → ∃ A d, w.cell? ⟨g, k, none⟩ = some (.slice A (t.getD k []).length d) := by
  obtain ⟨hT, hv, hs, ho, hr⟩ := h
  have hl := hr.1
  obtain ⟨g, c, rfl⟩ := ho.slice (by omega)
  refine ⟨g, c, by rw [hl], (ho.ob g rfl).1, hv g rfl, fun k hk => ?_⟩
  obtain ⟨A, d, hA, _, _, _, _⟩ := (hr.2.1 k hk).1.form
  rw [bcells_len] at hA
  exact ⟨A, d, by rw [(ho.cellAt k (by omega)).1, getD_at hs nilS (by omega), hA]⟩
/-- The row i is another row of one's own (any header). -/
theorem MineB.rowX {w X : World} {B T i g m c : Nat} {ll : List (List Bool)} {hv v' : Value} {x : List Bool} (h : MineB w B T (.slice (some ⟨g, 0, none⟩) m c) ll) (hc : w.cell? ⟨g, i, none⟩ = some hv)
    (hi : i < ll.length) (hz : w.heap.size ≤ X.heap.size) (hk : ∀ k, B ≤ k → k < T → some k ≠ hv.ownBlock → X.heap[k]? = w.heap[k]?) (ho : Own1 TBo X B v' (bcells x))
    (hb : v'.ownBlock = hv.ownBlock ∨ ∀ k, v'.ownBlock = some k → T ≤ k) :
    X.frozen? ⟨g, i, none⟩ = false ∧ X.cell? ⟨g, i, none⟩ = some hv ∧ MineB (X.setCell ⟨g, i, none⟩ v') B X.heap.size (.slice (some ⟨g, 0, none⟩) m c) (ll.set i x) := by
  obtain ⟨hT, hv0, hs, hown, hr⟩ := h
  have hgT := hv0 g rfl
  have hgB := (hown.ob g rfl).1
  have hl := hr.1
  have hc0 : w.cell? ⟨g, i, none⟩ = hs[i]? := (hown.cellAt i (by omega)).1
  rw [hc, getD_at hs nilS (by omega)] at hc0
  injection hc0 with hc0
  have hgi := (hr.2.1 i hi).2
  rw [← hc0] at hgi
  have hng : some g ≠ hv.ownBlock := fun e => (hgi g e.symm).2 rfl
  have hkg := hk g hgB hgT hng
  have ho2 : Own1 TBS X B (.slice (some ⟨g, 0, none⟩) m c) hs := hown.same fun k e => by
    have e2 : some g = some k := e
    injection e2 with e2
    subst e2
    exact hkg
  have hm : ∀ k, v'.ownBlock = some k → k ≠ g := fun k e ekg => by
    subst ekg
    rcases hb with hb | hb
    · exact hng (by rw [← hb, e])
    · have := hb k e; omega
  refine ⟨(ho2.cellAt i (by omega)).2, (cell_heap hkg i).trans hc, ⟨by simp [World.setCell], fun k e => by have := hv0 k e; omega, hs.set i v', ho2.setAt i v', ⟨by rw [List.length_set, List.length_set]; exact hl, fun i' hi' => ?_, fun a b k hab hb2 e => ?_⟩⟩⟩
  · rw [List.length_set] at hi'
    have hkk : ∀ k, k ≠ g → (X.setCell ⟨g, i, none⟩ v').heap[k]? = X.heap[k]? := fun k hk => Below.heap_setCell X ⟨g, i, none⟩ _ k hk
    by_cases e : i = i'
    · subst e
      rw [gds_eq _ _ _ (by omega), gds_eq _ _ _ hi]
      exact ⟨ho.same fun k e => hkk k (hm k e), fun k e => ⟨(ho.ob k e).2, fun e2 => hm k e (by injection e2)⟩⟩
    · rw [gds_ne _ _ _ e, gds_ne _ _ _ e]
      obtain ⟨h1, h2⟩ := hr.2.1 i' hi'
      refine ⟨h1.same fun k ek => ?_, fun k ek => ⟨by have := (h2 k ek).1; omega, (h2 k ek).2⟩⟩
      have hkg : k ≠ g := fun e2 => (h2 k ek).2 (by rw [e2]; rfl)
      rw [hkk k hkg]
      refine hk k (h1.ob k ek).1 (h2 k ek).1 fun e2 => ?_
      rw [hc0] at e2
      rcases Nat.lt_or_ge i i' with hlt | hge
      · exact hr.2.2 i i' k hlt hi' e2.symm ek
      · exact hr.2.2 i' i k (by omega) hi ek e2.symm
  · rw [List.length_set] at hb2
    intro e2
    have key : ∀ p, p < ll.length → ((hs.set i v').getD p nilS).ownBlock = some k → (p = i ∧ v'.ownBlock = some k) ∨ (p ≠ i ∧ (hs.getD p nilS).ownBlock = some k) := fun p hp ep => by
      by_cases e : i = p
      · subst e
        rw [gds_eq _ _ _ (by omega)] at ep
        exact .inl ⟨rfl, ep⟩
      · rw [gds_ne _ _ _ e] at ep
        exact .inr ⟨fun e3 => e e3.symm, ep⟩
    have old : ∀ p, p ≠ i → p < ll.length → (hs.getD p nilS).ownBlock = some k → v'.ownBlock = some k → False := fun p hpi hp ep ev => by
      rcases hb with hb | hb
      · rw [ev, hc0] at hb
        rcases Nat.lt_or_ge p i with hlt | hge
        · exact hr.2.2 p i k hlt hi ep hb.symm
        · exact hr.2.2 i p k (by omega) hp hb.symm ep
      · have := hb k ev
        have := ((hr.2.1 p hp).2 k ep).1
        omega
    rcases key a (by omega) e with ⟨ea, va⟩ | ⟨ea, va⟩
    · rcases key b hb2 e2 with ⟨eb, vb⟩ | ⟨eb, vb⟩
      · omega
      · exact old b eb hb2 vb va
    · rcases key b hb2 e2 with ⟨eb, vb⟩ | ⟨eb, vb⟩
      · exact old a ea (by omega) va vb
      · exact hr.2.2 a b k hab hb2 va vb
theorem MineB.rowOwnA {w : World} {B T i g m c : Nat} {ll : List (List Bool)} {hv : Value} (h : MineB w B T (.slice (some ⟨g, 0, none⟩) m c) ll) (hc : w.cell? ⟨g, i, none⟩ = some hv) (hi : i < ll.length) :
    Own1 TBo w B hv (bcells (ll.getD i [])) := by
  obtain ⟨hT, hv0, hs, hown, hr⟩ := h
  have hl := hr.1
  have hc0 : w.cell? ⟨g, i, none⟩ = hs[i]? := (hown.cellAt i (by omega)).1
  rw [hc, getD_at hs nilS (by omega)] at hc0
  injection hc0 with hc0
  rw [hc0]
  exact (hr.2.1 i hi).1
def DrawnTM (w : World) (e : Ending) (w' : World) : Prop := ∃ u t v m, e = .returned (.tuple #[u, v]) ∧ IsR w' u t ∧ IsM w' v m ∧ t.length ≤ 4 ∧ (∀ r ∈ t, r.length ≤ 4) ∧ m.length ≤ 5 ∧ (∀ r ∈ m, r.length ≤ 5) ∧ Below w.heap.size w w'
def DrawnM (w : World) (e : Ending) (w' : World) : Prop := ∃ v m, e = .returned v ∧ IsM w' v m ∧ m.length ≤ 5 ∧ (∀ r ∈ m, r.length ≤ 5) ∧ Below w.heap.size w w'
set_option maxHeartbeats 4000000 in
theorem dMask_any (A : Option Addr) (n c : Nat) (hnc : n ≤ c) (hn : n ≤ maxLen) (w : World) (hb : Bytes w w.heap.size A n) :
    Calls Try.prog 30 #[.slice A n c] w (DrawnTM w) := by
  go_enter Try.func30, Try.ntmps30
  go_wp2_with fail
  refine (l6Open_any A n c hnc hn _ hb).mono ?_
  rintro e w1 ⟨rfl, ⟨n', c', hr⟩, hb1⟩
  have hr1 : RdN w1 w.heap.size 0 := ⟨_, _, _, _, hr, Nat.le_refl _⟩
  clear hr hb
  have hR := hr1.lt
  have HB1 := Lib.hid hb1; clear hb1
  go_wp2_with fail
  refine (tab_any 9 (by omega) (by omega) w.heap.size 0 (by omega) _ hr1).mono ?_
  rintro e w2 ⟨v, t, rfl, ho2, hl, hrow, hr2, hg2⟩
  have HG2 := Lib.hid hg2
  have HO2 := Lib.hid ho2
  have HROW := Lib.hid hrow
  clear ho2 hg2 hrow
  go_wp2_with fail
  refine (mask_any w.heap.size (0 + 24) (by omega) t v w1.heap.size w2.heap.size w2 HO2.out hR hl HROW.out hr2).mono ?_
  rintro e w3 ⟨v3, m, rfl, hm, hml, hmr, hr3, hg3⟩
  have hz2 := HG2.out.size
  have hR1 : w.heap.size < w2.heap.size := by omega
  have HG3 := Lib.hid (grown_trans HG2.out hg3)
  have HO3 := Lib.hid (HO2.out.grown hg3 hR)
  have HM3 := Lib.hid hm
  have HMR := Lib.hid hmr
  have hz3 := hg3.size
  obtain ⟨A3, c3, hv3, _, _, _⟩ := hm.is
  subst hv3
  obtain ⟨n3, hn3⟩ : ∃ n3, n3 = m.length := ⟨_, rfl⟩
  rw [← hn3] at hml HM3 ⊢
  have HN := Lib.hid hn3
  clear hm hmr hg3 hr2 HG2 HO2 hn3
  by_cases hm0 : 0 < n3
  · have hm0' : (0 : Int) < (n3 : Int) := by omega
    go_wp2_with fail
    refine (pick_any 8 (by omega) (by omega) w.heap.size (0 + 24 + 24) (by omega) _ hr3).mono ?_
    rintro e w4 ⟨x, rfl, x0, x1, hr4, hg4⟩
    have HM4 := Lib.hid (HM3.out.grown hg4 hR1)
    have HO4 := Lib.hid (HO3.out.grown hg4 hR)
    have HG4 := Lib.hid (grown_trans HG3.out hg4)
    have hz4 := hg4.size
    clear hg4 hr3 HM3 HO3 HG3
    rcases (show x = 0 ∨ x ≠ 0 by omega) with hx | hx
    · subst hx
      obtain ⟨g, c', hv', hgB, hgT, hcell⟩ := HM4.out.heads (by rw [← HN.out]; exact hm0)
      obtain ⟨Ak, dk, hck⟩ := hcell 0 (by rw [← HN.out]; exact hm0)
      injection hv' with hv1 hv2 hv3
      subst hv1
      obtain ⟨p, hp⟩ : ∃ p, p = (m.getD 0 []).length := ⟨_, rfl⟩
      have hp4 : p ≤ 4 := by
        rw [hp, List.getD_eq_getElem?_getD, List.getElem?_eq_getElem (by rw [← HN.out]; exact hm0)]; exact HMR.out _ (List.getElem_mem _)
      rw [← hp] at hck
      have HP := Lib.hid hp
      have HCK := Lib.hid hck
      have hT4 := HM4.out.1
      have hn1 : ¬ w4.heap.size = g := by omega
      have hn2 : ¬ g = w4.heap.size := by omega
      have HRO := Lib.hid (HM4.out.rowOwnA HCK.out (by rw [← HN.out]; exact hm0))
      have HLQ := Lib.hid (show (bcells (m.getD 0 [])).length + 1 ≤ 1000000 by rw [bcells_len, ← HP.out]; omega)
      clear hv2 hv3 hcell hp
      go_wp2_with (at_builtin
                   go_loud (refine app1 one_BS rfl (.tmp 25) (.tmp 26) rfl w2.heap.size (.slice Ak p dk) (bcells (m.getD 0 [])) rfl (HRO.out.alloc _) (w4.heap.size + 1) (some ⟨w4.heap.size, 0, none⟩) 1 1 [.bool false] rfl rfl (row_lit w4 #[.bool false] TBo) (by simp; rfl) HLQ.out (by simp; omega) ?_)
                   intro v5 w5 ho5 hg5 hb5
                   go_loud (have hX := HM4.out.rowX (X := w5) (x := m.getD 0 [] ++ [false]) (v' := v5) HCK.out (by rw [← HN.out]; exact hm0) (by have := hg5.size; simp at this; omega) (fun b hb1 hb2 hb3 => (hg5.block b (by simp; omega) hb3).trans (Below.heap_alloc w4 _ b (by omega))) (by rw [bcells_app]; exact ho5) (by
                     rcases hb5 with hb5 | hb5
                     · exact .inl hb5
                     · right; intro k e; rw [hb5] at e; injection e with e; simp at e; omega))
                   go_loud (obtain ⟨f5, c5, HM5⟩ := hX)
                   go_loud (have HM5 := Lib.hid HM5)
                   go_loud (have hlow : Below w1.heap.size w4 w5 := ⟨hg5.os, hg5.tape, hg5.output, by have := hg5.size; simp at this; omega, fun b hb => (hg5.block b (by simp; omega) (fun e => by have := (HRO.out.ob b e.symm).1; omega)).trans (Below.heap_alloc w4 _ b (by omega))⟩)
                   go_loud (have HO5 := Lib.hid (HO4.out.same (w' := w5) (by have := hg5.size; simp at this; omega) (fun b hb1 hb2 => (hg5.block b (by simp; omega) (fun e => by have := (HRO.out.ob b e.symm).1; omega)).trans (Below.heap_alloc w4 _ b (by omega)))))
                   go_loud (have HB5 := Lib.hid ((HB1.out.trans (grown_old HG4.out (Nat.le_refl _) (by omega))).trans (hlow.mono (by omega))))
                   go_loud (obtain ⟨A5, d5, hv5, _, _, _, _⟩ := ho5.form)
                   go_loud (rw [List.length_append, bcells_len, ← HP.out, List.length_singleton] at hv5)
                   go_loud (subst hv5)
                   go_loud (clear hlow hg5 hb5 ho5))
      have HO6 := Lib.hid (HO5.out.same (w' := w5.setCell ⟨g, 0, none⟩ (.slice A5 (p + 1) d5)) (by simp [World.setCell]) (fun b hb1 hb2 => Below.heap_setCell w5 ⟨g, 0, none⟩ _ b (show b ≠ g by omega)))
      have HB6 := Lib.hid (HB5.out.setCell (p := ⟨g, 0, none⟩) (show w.heap.size ≤ g by omega) (.slice A5 (p + 1) d5))
      go_ret2
      exact ⟨v, t, _, m.set 0 (m.getD 0 [] ++ [false]), rfl, HO6.out.is, HM5.out.is, by omega, HROW.out, by rw [List.length_set, ← HN.out]; omega, fun r hr => by
        rcases List.mem_or_eq_of_mem_set hr with h | h
        · have := HMR.out r h; omega
        · rw [h, List.length_append, ← HP.out]; simp; omega, HB6.out⟩
    · have hx' : (x == 0) = false := by rw [beq_eq_false_iff_ne]; exact hx
      go_wp2
      go_ret2
      exact ⟨_, t, _, m, rfl, HO4.out.is, HM4.out.is, by omega, HROW.out, by rw [← HN.out]; omega, fun r hr => by have := HMR.out r hr; omega, HB1.out.trans (grown_old HG4.out (Nat.le_refl _) (by omega))⟩
  · have hm0' : ¬ (0 : Int) < (n3 : Int) := by omega
    go_wp2
    go_ret2
    exact ⟨_, t, _, m, rfl, HO3.out.is, HM3.out.is, by omega, HROW.out, by rw [← HN.out]; omega, fun r hr => by have := HMR.out r hr; omega, HB1.out.trans (grown_old HG3.out (Nat.le_refl _) (by omega))⟩
theorem dMaskMany_any (A : Option Addr) (n c : Nat) (hnc : n ≤ c) (hn : n ≤ maxLen) (w : World) (hb : Bytes w w.heap.size A n) :
    Calls Try.prog 35 #[.slice A n c] w (DrawnM w) := by
  go_enter Try.func35, Try.ntmps35
  go_wp2_with fail
  refine (dMask_any A n c hnc hn w hb).mono ?_
  rintro e w1 ⟨u, t, v, m, rfl, ht, hm, _, _, hml, hmr, hb1⟩
  go_wp2
  go_ret
  exact ⟨v, m, rfl, hm, hml, hmr, hb1⟩
end Go.Proofs.Ytcmnbodnjemjoaa
