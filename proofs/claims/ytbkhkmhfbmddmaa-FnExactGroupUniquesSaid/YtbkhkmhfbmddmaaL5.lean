import Derived.Test.YtbkhkmhfbmddmaaL4
import Derived.Test.YtbkhkmhfbmddmaaL1M
namespace Go.Proofs.Ytbkhkmhfbmddmaa
open Go.RowKit
/-- Rows that are the caller's own, and whether they were told. -/
def Merged (ll : List (List Int)) (t : Bool) (w : World) (e : Ending) (w' : World) : Prop := ∃ v, e = .returned (.tuple #[v, .bool t]) ∧ Mine w' w.heap.size w'.heap.size v ll ∧ Below w.heap.size w w'
theorem mrow_succ (ll : List (List Int)) (a b : Int) (k : Nat) : mrow ll a b (k + 1) = mrow ll a b k ++ [mcell ll (codeAt ll ll.length a) (codeAt ll ll.length b) k] := by
  unfold mrow; rw [List.range_succ, List.map_append]; rfl
theorem mrow_len (ll : List (List Int)) (a b : Int) (k : Nat) : (mrow ll a b k).length = k := by simp [mrow]
theorem mergeOk_parts {ll : List (List Int)} {a b : Int} : mergeOk ll a b = true ↔ ladOk ll = true ∧ ll.length ≠ 3 ∧ in3 a 0 3 = true ∧ in3 b 0 3 = true ∧ codeAt ll ll.length a ≠ codeAt ll ll.length b := by
  simp only [mergeOk, Bool.and_eq_true, Bool.not_eq_true', decide_eq_false_iff_not, and_assoc]
theorem mergeOk_no {ll : List (List Int)} {a b : Int} (h : ¬ (ladOk ll = true ∧ ll.length ≠ 3 ∧ in3 a 0 3 = true ∧ in3 b 0 3 = true ∧ codeAt ll ll.length a ≠ codeAt ll ll.length b)) : mergeOk ll a b = false := by
  cases hc : mergeOk ll a b
  · rfl
  · exact absurd (mergeOk_parts.1 hc) h
theorem merge_no {ll : List (List Int)} {a b : Int} {w w1 : World} (h : mergeOk ll a b = false) (hb : Below w.heap.size w w1) :
    Merged (lmerge ll a b) (mergeOk ll a b) w (.returned (.tuple #[.slice (some ⟨w1.heap.size, 0, none⟩) 0 0, .bool false])) (w1.alloc (.cells #[] TI)) := by
  refine ⟨_, by rw [h], ?_, hb.alloc hb.size _⟩
  have e : lmerge ll a b = [] := by rw [lmerge, if_neg (by simp [h])]
  rw [e]; exact (mine_new hb.size).up
theorem take_snocL (ll : List (List Int)) (k : Nat) (hk : k < ll.length) : ll.take (k + 1) = ll.take k ++ [ll.getD k []] := by
  rw [List.take_succ_eq_append_getElem hk, List.getD_eq_getElem?_getD, List.getElem?_eq_getElem hk]; rfl
end Go.Proofs.Ytbkhkmhfbmddmaa
