/- Contracts of the program: small cells. -/
import Derived.Test.YtpajbgkgleeifaaIM8
import Derived.Test.YtpajbgkgleeifaaTS7
namespace Go.Proofs.Ytpajbgkgleeifaa
open Go.RowKit Go.Shelf
attribute [local go_sem] Oper.semAt_some
/-- A mask by its flags. -/
def matM (h n : Nat) (f : Nat → Nat → Bool) : Mk := (List.range h).map fun i => (List.range n).map (f i)
theorem matM_len (h n : Nat) (f : Nat → Nat → Bool) : (matM h n f).length = h := by simp [matM]
theorem matM_row (h n : Nat) (f : Nat → Nat → Bool) {i : Nat} (hi : i < h) : (matM h n f).getD i [] = (List.range n).map (f i) := by
  rw [getD_of _ _ (by rw [matM_len]; exact hi)]; simp [matM]
theorem matM_rlen (h n : Nat) (f : Nat → Nat → Bool) {i : Nat} (hi : i < h) : ((matM h n f).getD i []).length = n := by rw [matM_row h n f hi]; simp
theorem matM_cell (h n : Nat) (f : Nat → Nat → Bool) {i j : Nat} (hi : i < h) (hj : j < n) : ((matM h n f).getD i []).getD j false = f i j := by
  rw [matM_row h n f hi, getD_of _ _ (by simpa using hj)]; simp
theorem matM_ext {h n : Nat} {f g : Nat → Nat → Bool} (e : ∀ i j, i < h → j < n → f i j = g i j) : matM h n f = matM h n g :=
  List.map_congr_left fun i hi => List.map_congr_left fun j hj => e i j (List.mem_range.1 hi) (List.mem_range.1 hj)
theorem matM_set (h n : Nat) (f : Nat → Nat → Bool) {i j : Nat} (hi : i < h) (_hj : j < n) (x : Bool) :
    (matM h n f).set i (((matM h n f).getD i []).set j x) = matM h n fun a b => if a = i ∧ b = j then x else f a b := by
  refine List.ext_getElem (by rw [List.length_set, matM_len, matM_len]) fun a ha _ => ?_
  rw [List.length_set, matM_len] at ha
  have e : (matM h n fun a b => if a = i ∧ b = j then x else f a b)[a]'(by rw [matM_len]; exact ha) = (List.range n).map fun b => if a = i ∧ b = j then x else f a b := by simp [matM]
  rw [e, List.getElem_set]
  by_cases hai : i = a
  · subst hai
    rw [if_pos rfl, matM_row h n f hi]
    refine List.ext_getElem (by simp) fun b hb _ => ?_
    rw [List.getElem_set]
    by_cases hbj : j = b
    · subst hbj; simp
    · rw [if_neg hbj]; simp; intro h; exact absurd h.symm hbj
  · rw [if_neg hai]
    have : ¬ a = i := fun h => hai h.symm
    simp [matM, this]
def isSmall (k y : Int) : Bool := decide (0 < y) && decide (y < k)
def smallBy (t : Tb) (k : Int) {q d : Nat} (pre : List (Pc q d)) : Mk := matM q d fun a b => gotB pre a b && isSmall k ((t.getD a []).getD b 0)
theorem smallBy_nil (t : Tb) (k : Int) {q d : Nat} : smallBy t k ([] : List (Pc q d)) = List.replicate q (zerowM d) := by
  unfold smallBy matM zerowM
  simp only [gotB_nil, Bool.false_and]
  rw [List.map_const', List.map_const', List.length_range, List.length_range]
theorem smallBy_snoc (t : Tb) (k : Int) {q d : Nat} (pre : List (Pc q d)) (x : Pc q d) :
    (smallBy t k pre).set x.1.val (((smallBy t k pre).getD x.1.val []).set x.2.val (isSmall k ((t.getD x.1.val []).getD x.2.val 0))) = smallBy t k (pre ++ [x]) := by
  rw [smallBy, matM_set _ _ _ x.1.isLt x.2.isLt, smallBy]
  refine matM_ext fun a b _ _ => ?_
  rw [gotB_snoc]
  by_cases h : a = x.1.val ∧ b = x.2.val
  · rw [if_pos h, h.1, h.2]; simp
  · rw [if_neg h]
    have : decide (x.1.val = a ∧ x.2.val = b) = false := decide_eq_false fun e => h ⟨e.1.symm, e.2.symm⟩
    rw [this, Bool.or_false]
theorem smallBy_all {t : Tb} (h : ∀ i, i < t.length → (t.getD i []).length = wd t) (k : Int) : smallBy t k (plc t.length (wd t)) = msmall t k := by
  refine List.ext_getElem (by rw [smallBy, matM_len, msmall, List.length_map]) fun i h1 h2 => ?_
  rw [smallBy, matM_len] at h1
  have hl := h i h1
  have e1 : (smallBy t k (plc t.length (wd t)))[i]'(by rw [smallBy, matM_len]; exact h1) = (List.range (wd t)).map fun b => gotB (plc t.length (wd t)) i b && isSmall k ((t.getD i []).getD b 0) := by simp [smallBy, matM]
  have e2 : (msmall t k)[i] = small k t[i] := by simp [msmall]
  rw [e1, e2]
  rw [getD_of _ _ h1] at hl ⊢
  refine List.ext_getElem (by simp [small, hl]) fun j h3 h4 => ?_
  have hj : j < wd t := by simpa using h3
  simp only [List.getElem_map, List.getElem_range, small, gotB_all h1 hj, Bool.true_and, isSmall]
  rw [getD_of _ _ (by rw [hl]; exact hj)]
theorem MineB.from_ {B T n : Nat} {β : Type} (f : β → Mk) (v : Value) (hn : T ≤ n) : OwnFrom n (fun (s : β) X => MineB X B T v (f s)) := fun s X Y row hs hg hr =>
  hs.same hg.size fun k _ hT => hg.block k (Nat.lt_of_lt_of_le hT hs.1) fun e => by have := (hr k e.symm).1; omega
theorem none_ownM {w w1 : World} {o : Obj} (hz : w.heap.size ≤ w1.heap.size) : MineB ((w1.alloc o).alloc (.cells #[] TBS)) w.heap.size ((w1.alloc o).alloc (.cells #[] TBS)).heap.size (.slice (some ⟨w1.heap.size + 1, 0, none⟩) 0 0) [] := by
  have h := mineB_new (w := w1.alloc o) (B := w.heap.size) (by simp; omega)
  rw [World.size_alloc] at h
  exact h.up
end Go.Proofs.Ytpajbgkgleeifaa
