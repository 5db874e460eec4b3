/- Bounds of hidden cells: what is left of sums when cells are taken away one by one. -/
import Derived.Test.YtdjjkfhdgnlkeaaBMA
import Derived.Test.YtdjjkfhdgnlkeaaTS5
namespace Go.Proofs.Ytdjjkfhdgnlkeaa
open Go.RowKit
def rR (t x : Tb) (d k l a : Nat) : Int := (rsum t).getD a 0 - (if a < k then sm d (cF x a) else if a = k then sm l (cF x k) else 0)
def cC (t x : Tb) (k l b : Nat) : Int := (csum t).getD b 0 - (sm k fun a => cF x a b) - (if b < l then cF x k b else 0)
section
variable {t x : Tb} {m : Mk} {q d k l : Nat}
theorem rR_step : (vec q (rR t x d k l)).set k (rR t x d k l k - cF x k l) = vec q (rR t x d k (l + 1)) := by
  rw [vec_set]
  refine vec_ext fun a _ => ?_
  by_cases e : a = k
  · subst e; simp [rR, sm]; omega
  · simp [rR, e]
theorem cC_step : (vec d (cC t x k l)).set l (cC t x k l l - cF x k l) = vec d (cC t x k (l + 1)) := by
  rw [vec_set]
  refine vec_ext fun b _ => ?_
  by_cases e : b = l
  · subst e; simp [cC]
  · have e2 : b < l + 1 ↔ b < l := by omega
    simp [cC, e, e2]
theorem rR_next : vec q (rR t x d k d) = vec q (rR t x d (k + 1) 0) := vec_ext fun a _ => by
  unfold rR
  by_cases e1 : a < k
  · rw [if_pos e1, if_pos (by omega)]
  · by_cases e2 : a = k
    · subst e2; rw [if_neg e1, if_pos rfl, if_pos (by omega)]
    · rw [if_neg e1, if_neg e2, if_neg (by omega)]; split <;> simp [sm]
theorem cC_next : vec d (cC t x k d) = vec d (cC t x (k + 1) 0) := vec_ext fun b hb => by
  unfold cC
  rw [if_pos hb, if_neg (by omega)]; simp only [sm]; omega
theorem rR_zero : rsum t = vec t.length (rR t x d 0 0) := by
  refine List.ext_getElem (by rw [vec_len, rsum_len]) fun a h1 h2 => ?_
  rw [← getD_of _ 0 h1, ← getD_of _ 0 h2, vec_get _ _ (by rw [vec_len] at h2; exact h2)]
  unfold rR
  rw [if_neg (by omega)]; split <;> simp [sm]
theorem cC_zero : csum t = vec (wd t) (cC t x 0 0) := by
  refine List.ext_getElem (by rw [vec_len, csum_len]) fun a h1 h2 => ?_
  rw [← getD_of _ 0 h1, ← getD_of _ 0 h2, vec_get _ _ (by rw [vec_len] at h2; exact h2)]
  unfold cC
  rw [if_neg (by omega)]; simp [sm]
/-- A cell that may stand. -/
def okC (t : Tb) (m : Mk) (x : Tb) (k l : Nat) : Prop := 0 ≤ cF x k l ∧ cF x k l ≤ 396 ∧ (hF m k l = false → cF x k l = cF t k l)
theorem rs_of (ht : Tab t) (hk : k < t.length) : (rsum t).getD k 0 = sm (wd t) (cF t k) := by
  rw [cF_row (ht.rlen hk), getD_of _ _ hk, getD_of _ _ (by rw [rsum_len]; exact hk)]; simp [rsum]
theorem cs_of (hl : l < wd t) : (csum t).getD l 0 = sm t.length (fun k => cF t k l) := by
  rw [cF_col, getD_of _ _ (by rw [csum_len]; exact hl)]; simp [csum]
theorem fit_end (h : mkOk t m = true) (hx : x.length = t.length) (hr : ∀ k, k < t.length → (x.getD k []).length = wd t) (hc : ∀ k l, k < t.length → l < wd t → okC t m x k l) :
    (allz (vec t.length (rR t x (wd t) t.length 0)) && allz (vec (wd t) (cC t x t.length 0))) = fitB t m x := by
  have ht := (mk_parts.1 h).1
  have eR : ∀ k, k < t.length → rR t x (wd t) t.length 0 k = sm (wd t) (cF t k) - sm (wd t) (cF x k) := fun k hk => by unfold rR; rw [if_pos hk, rs_of ht hk]
  have eC : ∀ l, l < wd t → cC t x t.length 0 l = sm t.length (fun k => cF t k l) - sm t.length (fun k => cF x k l) := fun l hl => by unfold cC; rw [if_neg (by omega), cs_of hl]; omega
  cases e : fitB t m x
  · by_cases a : ∀ k, k < t.length → rR t x (wd t) t.length 0 k = 0
    · by_cases b : ∀ l, l < wd t → cC t x t.length 0 l = 0
      · have : fitB t m x = true := fitB_iff.2 ⟨h, hx, fun r hr2 => by
          obtain ⟨i, hi, rfl⟩ := List.getElem_of_mem hr2
          rw [← getD_of _ [] hi]; exact hr i (by omega), ⟨fun k l hk hl => (hc k l hk hl).1, fun k hk => by have := a k hk; rw [eR k hk] at this; omega, fun l hl => by have := b l hl; rw [eC l hl] at this; omega, fun k l hk hl e2 => (hc k l hk hl).2.2 e2⟩⟩
        rw [e] at this; cases this
      · have ⟨l, hl⟩ : ∃ l, ¬ (l < wd t → cC t x t.length 0 l = 0) := Classical.not_forall.1 b
        have ⟨h1, h2⟩ := Classical.not_imp.1 hl
        rw [allz_no (x := vec (wd t) (cC t x t.length 0)) (k := l) (by rw [vec_len]; exact h1) (by rw [vec_get _ _ h1]; exact h2), Bool.and_false]
    · have ⟨k, hk⟩ : ∃ k, ¬ (k < t.length → rR t x (wd t) t.length 0 k = 0) := Classical.not_forall.1 a
      have ⟨h1, h2⟩ := Classical.not_imp.1 hk
      rw [allz_no (x := vec t.length (rR t x (wd t) t.length 0)) (k := k) (by rw [vec_len]; exact h1) (by rw [vec_get _ _ h1]; exact h2), Bool.false_and]
  · obtain ⟨_, _, _, f⟩ := fitB_iff.1 e
    rw [allz_of fun k hk => by
      rw [vec_len] at hk
      rw [vec_get _ _ hk, eR k hk, f.row k hk]; omega, allz_of fun l hl => by
      rw [vec_len] at hl
      rw [vec_get _ _ hl, eC l hl, f.col l hl]; omega]
    rfl
/-- A cell, a row that may not stand. -/
theorem fit_bad (h : k < t.length) (hl : l < wd t) (hc : ¬ okC t m x k l) : fitB t m x = false := fitB_no fun f => hc ⟨(f.le h hl).1, (f.le h hl).2, f.2.2.2.off k l h hl⟩
theorem fit_badrow (h : k < t.length) (hl : (x.getD k []).length ≠ wd t) : fitB t m x = false := fitB_no fun f => hl (f.2.2.1 _ (by rw [getD_of _ _ (by rw [f.2.1]; exact h)]; exact List.getElem_mem _))
theorem fit_badlen (hl : x.length ≠ t.length) : fitB t m x = false := fitB_no fun f => hl f.2.1
theorem fit_badmk (h : mkOk t m = false) : fitB t m x = false := fitB_no fun f => by rw [f.1] at h; cases h
theorem rR_bd (ht : Tab t) (hk : k < t.length) (hl : l ≤ wd t) (hc : ∀ b, b < l → 0 ≤ cF x k b ∧ cF x k b ≤ 396) : -2000 ≤ rR t x (wd t) k l k ∧ rR t x (wd t) k l k ≤ 2000 := by
  have h1 := ht.row_le hk
  have h2 : 0 ≤ sm (wd t) (cF t k) := sm_pos fun l hl => (ht.cell hk hl).1
  have h3 := sm_le_mul (n := l) (f := cF x k) (c := 396) fun b hb => (hc b hb).2
  have h4 : 0 ≤ sm l (cF x k) := sm_pos fun b hb => (hc b hb).1
  have h5 := ht.w4
  unfold rR
  rw [if_neg (by omega), if_pos rfl, rs_of ht hk]
  omega
theorem cC_bd (ht : Tab t) (hk : k ≤ t.length) (hl : l < wd t) (hc : ∀ a, a < k → 0 ≤ cF x a l ∧ cF x a l ≤ 396) : -2000 ≤ cC t x k l l ∧ cC t x k l l ≤ 2000 := by
  have h1 := sm_le_mul (n := t.length) (f := fun k => cF t k l) (c := 99) fun a ha => (ht.cell ha hl).2
  have h2 : 0 ≤ sm t.length (fun k => cF t k l) := sm_pos fun a ha => (ht.cell ha hl).1
  have h3 := sm_le_mul (n := k) (f := fun a => cF x a l) (c := 396) fun a ha => (hc a ha).2
  have h4 : 0 ≤ sm k (fun a => cF x a l) := sm_pos fun a ha => (hc a ha).1
  have h5 := ht.h4
  unfold cC
  rw [if_neg (by omega), cs_of hl]
  omega
end
end Go.Proofs.Ytdjjkfhdgnlkeaa
