/- What the laws of chapter 13 with a loop share. -/
import Derived.Test.YtobgceebolmfcaaDoorWN0
namespace Go.Proofs.YtobgceebolmfcaaDoor
open Go.RowKit
abbrev one01 (f : Nat → Bool) : Nat → Int := fun l => if f l = true then 1 else 0
theorem sm01 (f : Nat → Bool) : ∀ k : Nat, 0 ≤ sm k (one01 f) ∧ sm k (one01 f) ≤ k
  | 0 => ⟨Int.le_refl _, Int.le_refl _⟩
  | k + 1 => by
    have := sm01 f k
    show 0 ≤ sm k (one01 f) + one01 f k ∧ sm k (one01 f) + one01 f k ≤ _
    unfold one01 at *
    split <;> omega
theorem sm01_one (f : Nat → Bool) {l : Nat} (hf : f l = true) : ∀ {k : Nat}, l < k → 1 ≤ sm k (one01 f)
  | k + 1, h => by
    have h0 := sm01 f k
    show 1 ≤ sm k (one01 f) + one01 f k
    by_cases e : l = k
    · subst e; unfold one01 at *; rw [if_pos hf]; omega
    · have := sm01_one f hf (k := k) (by omega)
      unfold one01 at *; split <;> omega
theorem sm01_two (f : Nat → Bool) {l o : Nat} (hf : f l = true) (ho : f o = true) (hlo : l < o) : ∀ {k : Nat}, o < k → 2 ≤ sm k (one01 f)
  | k + 1, h => by
    show 2 ≤ sm k (one01 f) + one01 f k
    by_cases e : o = k
    · subst e
      have := sm01_one f hf hlo
      unfold one01 at *; rw [if_pos ho]; omega
    · have := sm01_two f hf ho hlo (k := k) (by omega)
      unfold one01 at *; split <;> omega
theorem sm01_alone (f : Nat → Bool) {k o : Nat} (h : sm k (one01 f) ≤ 1) (ho : f o = true) (hok : o < k) : ∀ l, l < k → l ≠ o → f l = false := fun l hl hlo => by
  cases e : f l
  · rfl
  · exfalso
    rcases Nat.lt_or_gt_of_ne hlo with h1 | h1
    · have := sm01_two f e ho h1 hok; omega
    · have := sm01_two f ho e h1 hl; omega
theorem sm01_zero (f : Nat → Bool) {k : Nat} (h : sm k (one01 f) ≤ 0) : ∀ l, l < k → f l = false := fun l hl => by
  cases e : f l
  · rfl
  · exfalso; have := sm01_one f e hl; omega
theorem sm_bdC (f : Nat → Int) (c : Int) : ∀ n : Nat, (∀ i, i < n → 0 ≤ f i ∧ f i ≤ c) → 0 ≤ sm n f ∧ sm n f ≤ c * n
  | 0, _ => by simp [sm]
  | n + 1, h => by
    have h1 := sm_bdC f c n fun i hi => h i (by omega)
    have h2 := h n (Nat.lt_succ_self n)
    show 0 ≤ sm n f + f n ∧ sm n f + f n ≤ c * ((n + 1 : Nat) : Int)
    have e : c * ((n + 1 : Nat) : Int) = c * n + c := by rw [show ((n + 1 : Nat) : Int) = (n : Int) + 1 by omega, Int.mul_add, Int.mul_one]
    rw [e]; omega
theorem IsR.rowI {W : World} {t : Tb} {b o n c i : Nat} {v : Value} (h : IsR W (.slice (some ⟨b, o, none⟩) n c) t) (hi : i < t.length) (hc : W.cell? ⟨b, o + i, none⟩ = some v) : IsI W v (t.getD i []) := by
  obtain ⟨A, c', hv, _, _, hl⟩ := h
  injection hv with hv _ _
  subst hv
  obtain ⟨b1, o1, A0, c0, hA, _, e0, h1, h2, r0⟩ := hl.at_ i hi
  injection hA with hA
  injection hA with x1 x2 _
  subst x1 x2
  rw [hc] at e0
  injection e0 with e0
  exact ⟨A0, c0, e0, h1, h2, r0⟩
theorem rsum_getD (t : Tb) {i : Nat} (hi : i < t.length) : (rsum t).getD i 0 = (t.getD i []).sum := by
  rw [getD_of _ _ (by rw [rsum_len]; exact hi), getD_of _ _ hi]; simp [rsum]
end Go.Proofs.YtobgceebolmfcaaDoor
