/- Contracts of the model: tables filled cell by cell. -/
import Derived.Test.YtpajbgkgleeifaaTS1
namespace Go.Proofs.Ytpajbgkgleeifaa
open Go.RowKit
/-- A table by its cells. -/
def mat (h n : Nat) (f : Nat → Nat → Int) : Tb := (List.range h).map fun i => (List.range n).map (f i)
theorem mat_len (h n : Nat) (f : Nat → Nat → Int) : (mat h n f).length = h := by simp [mat]
theorem mat_row (h n : Nat) (f : Nat → Nat → Int) {i : Nat} (hi : i < h) : (mat h n f).getD i [] = (List.range n).map (f i) := by
  rw [getD_of _ _ (by rw [mat_len]; exact hi)]; simp [mat]
theorem mat_rlen (h n : Nat) (f : Nat → Nat → Int) {i : Nat} (hi : i < h) : ((mat h n f).getD i []).length = n := by rw [mat_row h n f hi]; simp
theorem mat_cell (h n : Nat) (f : Nat → Nat → Int) {i j : Nat} (hi : i < h) (hj : j < n) : ((mat h n f).getD i []).getD j 0 = f i j := by
  rw [mat_row h n f hi, getD_of _ _ (by simpa using hj)]; simp
theorem mat_ext {h n : Nat} {f g : Nat → Nat → Int} (e : ∀ i j, i < h → j < n → f i j = g i j) : mat h n f = mat h n g :=
  List.map_congr_left fun i hi => List.map_congr_left fun j hj => e i j (List.mem_range.1 hi) (List.mem_range.1 hj)
theorem mat_set (h n : Nat) (f : Nat → Nat → Int) {i j : Nat} (hi : i < h) (_hj : j < n) (x : Int) :
    (mat h n f).set i (((mat h n f).getD i []).set j x) = mat h n fun a b => if a = i ∧ b = j then x else f a b := by
  refine List.ext_getElem (by rw [List.length_set, mat_len, mat_len]) fun a ha _ => ?_
  rw [List.length_set, mat_len] at ha
  have e : (mat h n fun a b => if a = i ∧ b = j then x else f a b)[a]'(by rw [mat_len]; exact ha) = (List.range n).map fun b => if a = i ∧ b = j then x else f a b := by simp [mat]
  rw [e, List.getElem_set]
  by_cases hai : i = a
  · subst hai
    rw [if_pos rfl, mat_row h n f hi]
    refine List.ext_getElem (by simp) fun b hb _ => ?_
    rw [List.getElem_set]
    by_cases hbj : j = b
    · subst hbj; simp
    · rw [if_neg hbj]; simp; intro h; exact absurd h.symm hbj
  · rw [if_neg hai]
    have : ¬ a = i := fun h => hai h.symm
    simp [mat, this]
theorem zeros_mat (h n : Nat) : zeros h n = mat h n fun _ _ => 0 := by
  unfold zeros zrow mat
  rw [List.map_const', List.map_const', List.length_range, List.length_range]
theorem turn_mat (t : Tb) : turn t = mat (wd t) t.length fun j i => (t.getD i []).getD j 0 := by
  unfold turn mat
  refine List.map_congr_left fun j _ => List.ext_getElem (by rw [col_len]; simp) fun i h1 h2 => ?_
  rw [col_len] at h1
  rw [← getD_of (col t j) 0 (by rw [col_len]; exact h1), col_get t j h1]; simp
theorem tabOf_mat (l : List Pn) : tabOf l = mat 4 4 fun i j => cel l i j := rfl
theorem Own1.lower {T : TypeId} {w : World} {B B' : Nat} {v : Value} {cs : List Value} (h : Own1 T w B v cs) (hB : B' ≤ B) : Own1 T w B' v cs := h.less hB
theorem Mine.lower {w : World} {B B' T : Nat} {v : Value} {ll : List (List Int)} (h : Mine w B T v ll) (hB : B' ≤ B) : Mine w B' T v ll := by
  obtain ⟨hT, hv, hs, ho, hr⟩ := h
  exact ⟨hT, hv, hs, ho.less hB, hr.1, fun i hi => ⟨(hr.2.1 i hi).1.less hB, (hr.2.1 i hi).2⟩, hr.2.2⟩
theorem Mine.drewN {w : World} {B T : Nat} {v : Value} {ll : List (List Int)} (h : Mine w B T v ll) (n : Nat) : Mine (w.drewN n) B T v ll := h
/-- The cells of a table that came in. -/
theorem IsR.head {W : World} {q c : Nat} {A : Option Addr} {t : Tb} (h : IsR W (.slice A q c) t) : q = t.length ∧ t.length ≤ c ∧ c ≤ maxLen ∧ LL W W.heap.size A t := by
  obtain ⟨A', c', hv, h1, h2, h3⟩ := h
  injection hv with e1 e2 e3
  subst e1 e3
  exact ⟨e2, h1, h2, h3⟩
theorem LL.cell2 {W : World} {A : Option Addr} {t : Tb} (h : LL W W.heap.size A t) {i j : Nat} (hi : i < t.length) (hj : j < (t.getD i []).length) :
    ∃ b o b2 o2 c2, A = some ⟨b, o, none⟩ ∧ b < W.heap.size ∧ W.cell? ⟨b, o + i, none⟩ = some (.slice (some ⟨b2, o2, none⟩) (t.getD i []).length c2) ∧ (t.getD i []).length ≤ c2 ∧ b2 < W.heap.size ∧ W.cell? ⟨b2, o2 + j, none⟩ = some (.int .i64 ((t.getD i []).getD j 0)) := by
  obtain ⟨b, o, A1, c1, hA, hb, hc, hl, _, hr⟩ := h.at_ i hi
  obtain ⟨b2, o2, hA2, hb2, hc2⟩ := hr.int_ j hj
  subst hA2
  exact ⟨b, o, b2, o2, c1, hA, hb, hc, hl, hb2, hc2⟩
theorem tab_lens {t : Tb} (h : tabOk t = true) {i : Nat} (hi : i < t.length) : (t.getD i []).length = wd t := by
  rw [getD_of _ _ hi]; exact (tab_iff.1 h).len _ (List.getElem_mem hi)
/-- What has been turned when the cell (i, j) is next. -/
def turnTo (t : Tb) (i j : Nat) : Tb := mat (wd t) t.length fun a b => if b < i ∨ (b = i ∧ a < j) then (t.getD b []).getD a 0 else 0
theorem turnTo_start (t : Tb) : turnTo t 0 0 = zeros (wd t) t.length := by
  rw [zeros_mat, turnTo]
  exact mat_ext fun a b _ _ => by rw [if_neg (by omega)]
theorem turnTo_step (t : Tb) {i j : Nat} (hi : i < t.length) (hj : j < wd t) : (turnTo t i j).set j (((turnTo t i j).getD j []).set i ((t.getD i []).getD j 0)) = turnTo t i (j + 1) := by
  rw [turnTo, mat_set _ _ _ hj hi, turnTo]
  refine mat_ext fun a b _ _ => ?_
  by_cases h : a = j ∧ b = i
  · rw [if_pos h, if_pos (by omega), h.1, h.2]
  · rw [if_neg h]
    by_cases h2 : b < i ∨ (b = i ∧ a < j)
    · rw [if_pos h2, if_pos (by omega)]
    · rw [if_neg h2, if_neg (by omega)]
theorem turnTo_next (t : Tb) (i : Nat) : turnTo t i (wd t) = turnTo t (i + 1) 0 := by
  unfold turnTo
  exact mat_ext fun a b ha _ => by
    by_cases h : b < i + 1
    · rw [if_pos (by omega), if_pos (by omega)]
    · rw [if_neg (by omega), if_neg (by omega)]
theorem turnTo_end (t : Tb) : turnTo t t.length 0 = turn t := by
  rw [turn_mat, turnTo]
  exact mat_ext fun a b _ hb => by rw [if_pos (by omega)]
def turnI (t : Tb) : Tb := if tabOk t = true then turn t else []
end Go.Proofs.Ytpajbgkgleeifaa
