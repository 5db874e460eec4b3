/- What the laws of chapter 13 share. -/
import Derived.Test.YtobgceebolmfcaaDoorIMD
import Derived.Test.YtobgceebolmfcaaDoorIMC
import Derived.Test.YtobgceebolmfcaaDoorTLT
import Derived.Test.YtobgceebolmfcaaDoorTLA
import Derived.Test.YtobgceebolmfcaaDoorTDB
import Derived.Test.YtobgceebolmfcaaDoorIVB
import Derived.Test.YtobgceebolmfcaaDoorBMB
import Derived.Test.YtobgceebolmfcaaDoorA2
import Derived.Test.YtobgceebolmfcaaDoorA4
namespace Go.Proofs.YtobgceebolmfcaaDoor
open Go.RowKit
theorem rsum_bd13 {t : Tb} (h : Tab t) : ∀ y ∈ rsum t, 0 ≤ y ∧ y ≤ 1000000 := fun y hy => by
  obtain ⟨r, hr, rfl⟩ := List.mem_map.1 hy
  have := sum_bd99 r (h.bd r hr)
  have h2 := h.len r hr
  have h3 := h.w4
  omega
theorem csum_bd13 {t : Tb} (h : Tab t) : ∀ y ∈ csum t, 0 ≤ y ∧ y ≤ 1000000 := by rw [← rsum_turn]; exact rsum_bd13 (tab_turn h)
theorem tsum_bd13 {t : Tb} (h : Tab t) : 0 ≤ tsum t ∧ tsum t ≤ 4000000 := by
  have h1 := sum_bdL (rsum t) (rsum_bd13 h)
  have h2 : (rsum t).length = t.length := rsum_len t
  have h3 := h.h4
  rw [h2] at h1
  show 0 ≤ (rsum t).sum ∧ (rsum t).sum ≤ 4000000
  omega
theorem modTwo (n q d : Nat) (hn : ¬ 1048576 < n) (hq : 1 ≤ q) (hd : 1 ≤ d) : ∃ k l : Nat, (n : Int) % (q : Int) = (k : Int) ∧ k < q ∧ (n : Int) / (q : Int) % (d : Int) = (l : Int) ∧ (IntKind.i64.wrap ((n : Int) / (q : Int))).tmod (d : Int) = (l : Int) ∧ l < d := by
  refine ⟨n % q, n / q % d, by simp, Nat.mod_lt _ (by omega), by simp, ?_, Nat.mod_lt _ (by omega)⟩
  have h1 : n / q ≤ n := Nat.div_le_self _ _
  obtain ⟨x, hx⟩ : ∃ x, n / q = x := ⟨_, rfl⟩
  rw [← Int.natCast_ediv, hx]
  rw [hx] at h1
  rw [IntWalk.i64_in _ (by omega), Int.tmod_eq_emod_of_nonneg (by omega)]
  simp
theorem IsR.at1 {W : World} {v : Value} {t : Tb} (h : IsR W v t) (ht : Tab t) {i j : Nat} (hi : i < t.length) (hj : j < wd t) :
    ∃ b o c b2 o2 c2, v = .slice (some ⟨b, o, none⟩) t.length c ∧ b < W.heap.size ∧ W.cell? ⟨b, o + i, none⟩ = some (.slice (some ⟨b2, o2, none⟩) (wd t) c2) ∧ b2 < W.heap.size ∧ W.cell? ⟨b2, o2 + j, none⟩ = some (.int .i64 (cF t i j)) := by
  obtain ⟨A, c, hv, _, _, hl⟩ := h
  obtain ⟨b, o, A0, c0, hA, hb, e0, _, _, r0⟩ := hl.at_ i hi
  have hw : (t.getD i []).length = wd t := ht.len _ (by rw [getD_of _ _ hi]; exact List.getElem_mem _)
  obtain ⟨b2, o2, hA2, hb2, f0⟩ := r0.int_ j (by rw [hw]; exact hj)
  rw [hw] at e0
  subst hA hA2
  exact ⟨b, o, c, b2, o2, c0, hv, hb, e0, hb2, f0⟩
theorem IsR.all {W : World} {v : Value} {t : Tb} (h : IsR W v t) (ht : Tab t) : ∃ (b o c : Nat) (rb ro rc : Nat → Nat), v = .slice (some ⟨b, o, none⟩) t.length c ∧ ∀ w', Below W.heap.size W w' →
    (∀ i, i < t.length → w'.cell? ⟨b, o + i, none⟩ = some (.slice (some ⟨rb i, ro i, none⟩) (wd t) (rc i))) ∧ ∀ i j, i < t.length → j < wd t → w'.cell? ⟨rb i, ro i + j, none⟩ = some (.int .i64 (cF t i j)) := by
  obtain ⟨b, o, c, _, _, _, hv, hb, _, _, _⟩ := h.at1 ht (i := 0) (j := 0) ht.h1 ht.w1
  have key : ∀ i, ∃ x : Nat × Nat × Nat, i < t.length → W.cell? ⟨b, o + i, none⟩ = some (.slice (some ⟨x.1, x.2.1, none⟩) (wd t) x.2.2) ∧ x.1 < W.heap.size ∧ ∀ j, j < wd t → W.cell? ⟨x.1, x.2.1 + j, none⟩ = some (.int .i64 (cF t i j)) := fun i => by
    by_cases hi : i < t.length
    · obtain ⟨b1, o1, c1, b2, o2, c2, hv1, _, e1, hb2, _⟩ := h.at1 ht (j := 0) hi ht.w1
      rw [hv] at hv1
      injection hv1 with hv1 _ _
      injection hv1 with hv1
      injection hv1 with x1 x2 _
      subst x1 x2
      refine ⟨⟨b2, o2, c2⟩, fun _ => ⟨e1, hb2, fun j hj => ?_⟩⟩
      obtain ⟨b3, o3, c3, b4, o4, c4, hv3, _, e3, _, f3⟩ := h.at1 ht (j := j) hi hj
      rw [hv] at hv3
      injection hv3 with hv3 _ _
      injection hv3 with hv3
      injection hv3 with x1 x2 _
      subst x1 x2
      rw [e1] at e3
      injection e3 with e3
      injection e3 with e3 _ _
      injection e3 with e3
      injection e3 with x1 x2 _
      subst x1 x2
      exact f3
    · exact ⟨⟨0, 0, 0⟩, fun h => absurd h hi⟩
  obtain ⟨f, hf⟩ := Classical.axiomOfChoice key
  refine ⟨b, o, c, fun i => (f i).1, fun i => (f i).2.1, fun i => (f i).2.2, hv, fun w' hw' => ⟨fun i hi => ?_, fun i j hi hj => ?_⟩⟩
  · exact (hw'.cell (p := ⟨b, o + i, none⟩) hb).trans (hf i hi).1
  · exact (hw'.cell (p := ⟨(f i).1, (f i).2.1 + j, none⟩) (hf i hi).2.1).trans ((hf i hi).2.2 j hj)
theorem IsM.all {W : World} {v : Value} {m : Mk} (h : IsM W v m) {d : Nat} (h1 : 0 < m.length) (hd : 0 < d) (hr : ∀ r ∈ m, r.length = d) : ∃ (b o c : Nat) (rb ro rc : Nat → Nat), v = .slice (some ⟨b, o, none⟩) m.length c ∧ ∀ w', Below W.heap.size W w' →
    (∀ i, i < m.length → w'.cell? ⟨b, o + i, none⟩ = some (.slice (some ⟨rb i, ro i, none⟩) d (rc i))) ∧ ∀ i j, i < m.length → j < d → w'.cell? ⟨rb i, ro i + j, none⟩ = some (.bool (hF m i j)) := by
  have hw : ∀ i, i < m.length → (m.getD i []).length = d := fun i hi => hr _ (by rw [getD_of _ _ hi]; exact List.getElem_mem _)
  obtain ⟨b, o, c, _, _, _, hv, hb, _, _, _⟩ := h.flag (k := 0) (c := 0) h1 (by rw [hw 0 h1]; exact hd)
  have key : ∀ i, ∃ x : Nat × Nat × Nat, i < m.length → W.cell? ⟨b, o + i, none⟩ = some (.slice (some ⟨x.1, x.2.1, none⟩) d x.2.2) ∧ x.1 < W.heap.size ∧ ∀ j, j < d → W.cell? ⟨x.1, x.2.1 + j, none⟩ = some (.bool (hF m i j)) := fun i => by
    by_cases hi : i < m.length
    · obtain ⟨b1, o1, c1, b2, o2, c2, hv1, _, e1, hb2, _⟩ := h.flag (k := i) (c := 0) hi (by rw [hw i hi]; exact hd)
      rw [hv] at hv1
      injection hv1 with hv1 _ _
      injection hv1 with hv1
      injection hv1 with x1 x2 _
      subst x1 x2
      rw [hw i hi] at e1
      refine ⟨⟨b2, o2, c2⟩, fun _ => ⟨e1, hb2, fun j hj => ?_⟩⟩
      obtain ⟨b3, o3, c3, b4, o4, c4, hv3, _, e3, _, f3⟩ := h.flag (k := i) (c := j) hi (by rw [hw i hi]; exact hj)
      rw [hv] at hv3
      injection hv3 with hv3 _ _
      injection hv3 with hv3
      injection hv3 with x1 x2 _
      subst x1 x2
      rw [hw i hi] at e3
      rw [e1] at e3
      injection e3 with e3
      injection e3 with e3 _ _
      injection e3 with e3
      injection e3 with x1 x2 _
      subst x1 x2
      exact f3
    · exact ⟨⟨0, 0, 0⟩, fun h => absurd h hi⟩
  obtain ⟨f, hf⟩ := Classical.axiomOfChoice key
  refine ⟨b, o, c, fun i => (f i).1, fun i => (f i).2.1, fun i => (f i).2.2, hv, fun w' hw' => ⟨fun i hi => ?_, fun i j hi hj => ?_⟩⟩
  · exact (hw'.cell (p := ⟨b, o + i, none⟩) hb).trans (hf i hi).1
  · exact (hw'.cell (p := ⟨(f i).1, (f i).2.1 + j, none⟩) (hf i hi).2.1).trans ((hf i hi).2.2 j hj)
theorem wd_setC (t : Tb) {k l : Nat} (v : Int) (hk : k < t.length) : wd (t.set k ((t.getD k []).set l v)) = wd t := by
  rw [wd_zero, wd_zero]
  by_cases e : k = 0
  · subst e
    rw [getD_of _ _ (by rw [List.length_set]; exact hk), List.getElem_set_self, List.length_set]
  · rw [getD_of _ _ (by rw [List.length_set]; omega), List.getElem_set_ne e, getD_of t [] (show 0 < t.length by omega)]
theorem below_drewN {w w' : World} (h : Below w.heap.size w w') (n : Nat) : Below w.heap.size w (w'.drewN n) := h.trans ⟨rfl, rfl, rfl, Nat.le_refl _, fun _ _ => rfl⟩
theorem below_step {w w1 w2 : World} (h : Below w.heap.size w w1) (h1 : Below w1.heap.size w1 w2) : Below w.heap.size w w2 := h.trans (h1.mono h.size)
theorem hF_setB (m : Mk) {k l : Nat} (x : Bool) (hk : k < m.length) (hl : l < (m.getD k []).length) (a b : Nat) : hF (m.set k ((m.getD k []).set l x)) a b = if a = k ∧ b = l then x else hF m a b := by
  unfold hF
  simp only [List.getD_eq_getElem?_getD, List.getElem?_set]
  by_cases h1 : k = a
  · subst h1
    simp only [if_pos, hk, Option.getD_some, true_and]
    rw [List.getElem?_set]
    by_cases h2 : l = b
    · subst h2
      simp only [List.getD_eq_getElem?_getD] at hl
      simp [hl]
    · simp [h2, Ne.symm h2]
  · simp [h1, Ne.symm h1]
theorem mk_setM {t : Tb} {m : Mk} (h : mkOk t m = true) {k l : Nat} (x : Bool) (hk : k < t.length) (_hl : l < wd t) : mkOk t (m.set k ((m.getD k []).set l x)) = true := by
  obtain ⟨h1, h2, h3⟩ := mk_parts.1 h
  refine mk_parts.2 ⟨h1, by rw [List.length_set]; exact h2, fun r hr => ?_⟩
  rcases List.mem_or_eq_of_mem_set hr with h4 | h4
  · exact h3 r h4
  · rw [h4, List.length_set]; exact h3 _ (by rw [getD_of _ _ (by omega)]; exact List.getElem_mem _)
theorem hi_ge {t : Tb} {m : Mk} (h : mkOk t m = true) {a b : Nat} (ha : a < t.length) (hb : b < wd t) : cF t a b ≤ hiI t m a b ∧ loI t m a b ≤ cF t a b :=
  ⟨(hiI_is h ha hb).2 _ (FitF.refl (mk_tab h).posF), (loI_is h ha hb).2 _ (FitF.refl (mk_tab h).posF)⟩
end Go.Proofs.YtobgceebolmfcaaDoor
