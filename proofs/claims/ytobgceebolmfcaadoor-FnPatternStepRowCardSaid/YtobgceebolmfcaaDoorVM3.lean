/- The mathematics of a step in bits. -/
import Derived.Test.YtobgceebolmfcaaDoorVIB
import Derived.Test.YtobgceebolmfcaaDoorVSA
namespace Go.Proofs.YtobgceebolmfcaaDoor
open Go.RowKit
theorem fore_first {u : Nat → Nat → Bool} {q d : Nat} (hd : d ≤ 4) (hout : ∀ a b, u a b = true → a < q ∧ b < d) (h0 : enc u ≠ 0) : fst1 u (np d q 0) = some (Lib.ctz 64 (enc u) / 4, Lib.ctz 64 (enc u) % 4) := by
  obtain ⟨h1, h2, h3⟩ := ctz_bit h0 (enc_lt u)
  generalize Lib.ctz 64 (enc u) = c at h1 h2 h3
  rw [enc_bit] at h2
  simp only [Bool.and_eq_true, decide_eq_true_eq] at h2
  obtain ⟨ha, hb⟩ := hout _ _ h2.2
  refine fst1_hit ha hb ?_ h2.2
  unfold fst1
  rw [List.find?_eq_none]
  rintro ⟨x, y⟩ hxy
  rw [np_mem] at hxy
  have hlt : 4 * x + y < c := by omega
  have h9 := h3 _ hlt
  rw [enc_bit] at h9
  have e1 : (4 * x + y) / 4 = x := by omega
  have e2 : (4 * x + y) % 4 = y := by omega
  rw [e1, e2] at h9
  simp only [Bool.and_eq_false_iff, decide_eq_false_iff_not] at h9
  rcases h9 with h | h
  · omega
  · simp [h]
theorem sm_pair {f : Nat → Int} {i k : Nat} (hi : i < 4) (hk : k < 4) (hne : k ≠ i) (h : ∀ a, a ≠ i → a ≠ k → f a = 0) : sm 4 f = f i + f k := by
  simp only [sm]
  have e0 := h 0
  have e1 := h 1
  have e2 := h 2
  have e3 := h 3
  rcases (show i = 0 ∨ i = 1 ∨ i = 2 ∨ i = 3 by omega) with rfl | rfl | rfl | rfl <;> rcases (show k = 0 ∨ k = 1 ∨ k = 2 ∨ k = 3 by omega) with rfl | rfl | rfl | rfl <;> simp at hne e0 e1 e2 e3 ⊢ <;> omega
/-- What a rectangle hides besides. -/
def newB (m : Mk) (i j k l a b : Nat) : Bool := inSq i j k l a b && !hF m a b
theorem new_enc (m : Mk) (i j k l : Nat) : enc (inSq i j k l) &&& (18446744073709551615 - enc (hF m)) = enc (newB m i j k l) := less_enc _ _
theorem new_zero {m : Mk} {i j k l : Nat} (hi : i < 4) (hj : j < 4) (hk : k < 4) (hl : l < 4) : enc (newB m i j k l) = 0 ↔ isNew m i j (k, l) = false := by
  rw [enc_eq0]
  unfold isNew newB inSq
  constructor
  · intro h
    have a1 := h i j hi hj
    have a2 := h i l hi hl
    have a3 := h k j hk hj
    have a4 := h k l hk hl
    simp at a1 a2 a3 a4
    simp [a1, a2, a3, a4]
  · intro h a b ha hb
    simp at h
    obtain ⟨⟨⟨h1, h2⟩, h3⟩, h4⟩ := h
    cases e : ((decide (a = i) || decide (a = k)) && (decide (b = j) || decide (b = l)))
    · rfl
    · simp at e
      obtain ⟨e1, e2⟩ := e
      rcases e1 with rfl | rfl <;> rcases e2 with rfl | rfl <;> simp [h1, h2, h3, h4]
theorem new_cost {t : Tb} {m : Mk} {i j k l : Nat} (hi : i < 4) (hj : j < 4) (hk : k < 4) (hl : l < 4) (hki : k ≠ i) (hlj : l ≠ j) : sumP t (allP (enc (newB m i j k l))) = rc t m i j (k, l) := by
  rw [← upP_all, sumP_up t _ 16 (Nat.le_refl _)]
  rw [sm_congr (g := fun n => (fun a b => if newB m i j k l a b = true then cF t a b else 0) (n / 4) (n % 4)) fun n hn => by rw [enc_bit]; simp [hn]]
  rw [sm_16 (fun a b => if newB m i j k l a b = true then cF t a b else 0), sm_pair hi hk hki fun a h1 h2 => ?_]
  · rw [sm_pair hj hl hlj fun b h1 h2 => ?_, sm_pair hj hl hlj fun b h1 h2 => ?_]
    · have a1 : newB m i j k l i j = !hF m i j := by simp [newB, inSq]
      have a2 : newB m i j k l i l = !hF m i l := by simp [newB, inSq]
      have a3 : newB m i j k l k j = !hF m k j := by simp [newB, inSq]
      have a4 : newB m i j k l k l = !hF m k l := by simp [newB, inSq]
      simp only [rc, nC, a1, a2, a3, a4]
      cases hF m i j <;> cases hF m i l <;> cases hF m k j <;> cases hF m k l <;> simp <;> omega
    · simp [newB, inSq, h1, h2]
    · simp [newB, inSq, h1, h2]
  · rw [sm_congr (g := fun _ => 0) fun b _ => by simp [newB, inSq, h1, h2], sm_zero]
theorem sq_enc {t : Tb} {m : Mk} {i j k l : Nat} (h : mkOk t m = true) (hi : i < t.length) (hj : j < wd t) (hk : k < t.length) (hl : l < wd t) : enc (hF m) ||| enc (inSq i j k l) = enc (hF (sq m i j k l)) := by
  rw [or_enc]
  exact enc_ext fun a b _ _ => (sq_at h hi hj hk hl a b).symm
theorem rect_pos {i j k l : Nat} (hi : i < 4) (hj : j < 4) : enc (inSq i j k l) ≠ 0 := fun e => by
  have := enc_eq0.1 e i j hi hj
  simp [inSq] at this
end Go.Proofs.YtobgceebolmfcaaDoor
