/-  -/
import Derived.Test.YtobgceebolmfcaaDoorA3
namespace Go.Proofs.YtobgceebolmfcaaDoor
open Go.RowKit
/-- Rows that are the caller's own, and whether they were told. -/
def Merged (ll : List (List Int)) (t : Bool) (w : World) (e : Ending) (w' : World) : Prop := ∃ v, e = .returned (.tuple #[v, .bool t]) ∧ Mine w' w.heap.size w'.heap.size v ll ∧ Below w.heap.size w w'
theorem mrow_succ (ll : List (List Int)) (a b : Int) (k : Nat) : mrow ll a b (k + 1) = mrow ll a b k ++ [mcell ll (codeAt ll ll.length a) (codeAt ll ll.length b) k] := by
  unfold mrow; rw [List.range_succ, List.map_append]; rfl
theorem mrow_len (ll : List (List Int)) (a b : Int) (k : Nat) : (mrow ll a b k).length = k := by simp [mrow]
theorem mergeOk_parts {ll : List (List Int)} {a b : Int} : mergeOk ll a b = true ↔ ladOk ll = true ∧ ll.length ≠ 3 ∧ in3 a 0 3 = true ∧ in3 b 0 3 = true ∧ codeAt ll ll.length a ≠ codeAt ll ll.length b := by
  simp only [mergeOk, Bool.and_eq_true, Bool.not_eq_true', decide_eq_false_iff_not, and_assoc]
theorem mergeOk_no {ll : List (List Int)} {a b : Int} (h : ¬ (ladOk ll = true ∧ ll.length ≠ 3 ∧ in3 a 0 3 = true ∧ in3 b 0 3 = true ∧ codeAt ll ll.length a ≠ codeAt ll ll.length b)) : mergeOk ll a b = false := by
  cases hc : mergeOk ll a b
  · rfl
  · exact absurd (mergeOk_parts.1 hc) h
theorem merge_no {ll : List (List Int)} {a b : Int} {w w1 : World} (h : mergeOk ll a b = false) (hb : Below w.heap.size w w1) :
    Merged (lmerge ll a b) (mergeOk ll a b) w (.returned (.tuple #[.slice (some ⟨w1.heap.size, 0, none⟩) 0 0, .bool false])) (w1.alloc (.cells #[] TI)) := by
  refine ⟨_, by rw [h], ?_, hb.alloc hb.size _⟩
  have e : lmerge ll a b = [] := by rw [lmerge, if_neg (by simp [h])]
  rw [e]; exact (mine_new hb.size).up
theorem take_snocL (ll : List (List Int)) (k : Nat) (hk : k < ll.length) : ll.take (k + 1) = ll.take k ++ [ll.getD k []] := by
  rw [List.take_succ_eq_append_getElem hk, List.getD_eq_getElem?_getD, List.getElem?_eq_getElem hk]; rfl
end Go.Proofs.YtobgceebolmfcaaDoor
namespace Go.Proofs.YtobgceebolmfcaaDoor
open Go.RowKit
end Go.Proofs.YtobgceebolmfcaaDoor
namespace Go.Proofs.YtobgceebolmfcaaDoor
open Go.RowKit
theorem head_lit (w : World) (x : List Int) (cs : Array Value) (hcs : cs.toList = icells x) (hm : x.length ≤ 1000) (L : Nat) (no : Option Nat) (hL : L ≤ w.heap.size) (hno : ∀ k, no = some k → k < w.heap.size) :
    Heads (w.alloc (.cells cs TN)) L no [.slice (some ⟨w.heap.size, 0, none⟩) x.length x.length] [x] := by
  refine ⟨rfl, fun i hi => ?_⟩
  obtain rfl : i = 0 := by simp at hi; exact hi
  refine ⟨some ⟨w.heap.size, 0, none⟩, x.length, rfl, Nat.le_refl _, by simp only [maxLen]; omega, .inr ⟨w.heap.size, 0, rfl, hL, by simp, fun e => by have := hno _ e.symm; omega, fun j u hu => ?_⟩⟩
  have h : (icells x)[j]? = some u := hu
  rw [Nat.zero_add, cell_of_row _ _ j cs TN (0, 0) (heap_alloc_new w _)]
  rw [← hcs] at h; simpa using h
theorem Heads.alloc {w : World} {L : Nat} {no : Option Nat} {hs : List Value} {ll : List (List Int)} (h : Heads w L no hs ll) (o : Obj) : Heads (w.alloc o) L no hs ll :=
  h.keep (by simp) fun b _ hlt hne => ⟨Below.heap_alloc w o b hlt, hne⟩
theorem row_lit' (w : World) (o : Obj) (cs : Array Value) (T : TypeId) : Row ((w.alloc o).alloc (.cells cs T)) (w.heap.size + 2) (some ⟨w.heap.size + 1, 0, none⟩) cs.toList := by
  have h := row_lit (w.alloc o) cs T
  have e : (w.alloc o).heap.size = w.heap.size + 1 := by simp
  rw [e] at h; exact h
end Go.Proofs.YtobgceebolmfcaaDoor
namespace Go.Proofs.YtobgceebolmfcaaDoor
open Go.RowKit
theorem head_at (w : World) (g : Nat) (x : List Int) (cs : Array Value) (h : w.heap[g]? = some (.cells cs TN (0, 0))) (hcs : cs.toList = icells x) (hm : x.length ≤ 1000) (L : Nat) (no : Option Nat) (hL : L ≤ g) (hno : ∀ k, no = some k → k ≠ g) :
    Heads w L no [.slice (some ⟨g, 0, none⟩) x.length x.length] [x] := by
  refine ⟨rfl, fun i hi => ?_⟩
  obtain rfl : i = 0 := by simp at hi; exact hi
  refine ⟨some ⟨g, 0, none⟩, x.length, rfl, Nat.le_refl _, by simp only [maxLen]; omega, .inr ⟨g, 0, rfl, hL, (Array.getElem?_eq_some_iff.1 h).1, fun e => hno _ e.symm rfl, fun j u hu => ?_⟩⟩
  have h2 : (icells x)[j]? = some u := hu
  rw [Nat.zero_add, cell_of_row _ _ j cs TN (0, 0) h]
  rw [← hcs] at h2; simpa using h2
theorem alloc_at (w : World) (o : Obj) (k : Nat) (h : k = w.heap.size) : (w.alloc o).heap[k]? = some o := by subst h; exact heap_alloc_new w o
theorem keep1 {w : World} {o : Obj} {k : Nat} {x : Obj} (h : w.heap[k]? = some x) : (w.alloc o).heap[k]? = some x := by
  rw [Below.heap_alloc w o k (Array.getElem?_eq_some_iff.1 h).1]; exact h
theorem five_grown {w w' : World} {a b c d e : Obj} {R : Nat} (hg : (((((w.alloc a).alloc b).alloc c).alloc d).alloc e).grownBy w' (some R)) (hR : R < w.heap.size) :
    w'.heap[w.heap.size]? = some a ∧ w'.heap[w.heap.size + 1]? = some b ∧ w'.heap[w.heap.size + 2]? = some c ∧ w'.heap[w.heap.size + 3]? = some d ∧ w'.heap[w.heap.size + 4]? = some e := by
  have h0 := alloc_at w a _ rfl
  have h1 := alloc_at (w.alloc a) b (w.heap.size + 1) (by simp)
  have h2 := alloc_at ((w.alloc a).alloc b) c (w.heap.size + 2) (by simp)
  have h3 := alloc_at (((w.alloc a).alloc b).alloc c) d (w.heap.size + 3) (by simp)
  have h4 := alloc_at ((((w.alloc a).alloc b).alloc c).alloc d) e (w.heap.size + 4) (by simp)
  have f : ∀ k, w.heap.size ≤ k → k < w.heap.size + 5 → w'.heap[k]? = (((((w.alloc a).alloc b).alloc c).alloc d).alloc e).heap[k]? := fun k hk hk2 => hg.block k (by simp; omega) (fun h => by injection h; omega)
  exact ⟨(f _ (by omega) (by omega)).trans (keep1 (keep1 (keep1 (keep1 h0)))), (f _ (by omega) (by omega)).trans (keep1 (keep1 (keep1 h1))), (f _ (by omega) (by omega)).trans (keep1 (keep1 h2)), (f _ (by omega) (by omega)).trans (keep1 h3), (f _ (by omega) (by omega)).trans h4⟩
theorem four_at (w : World) (a b c d : Obj) : let W := (((w.alloc a).alloc b).alloc c).alloc d
    W.heap[w.heap.size]? = some a ∧ W.heap[w.heap.size + 1]? = some b ∧ W.heap[w.heap.size + 2]? = some c ∧ W.heap[w.heap.size + 3]? = some d := by
  have h0 := alloc_at w a _ rfl
  have h1 := alloc_at (w.alloc a) b (w.heap.size + 1) (by simp)
  have h2 := alloc_at ((w.alloc a).alloc b) c (w.heap.size + 2) (by simp)
  have h3 := alloc_at (((w.alloc a).alloc b).alloc c) d (w.heap.size + 3) (by simp)
  exact ⟨keep1 (keep1 (keep1 h0)), keep1 (keep1 h1), keep1 h2, h3⟩
theorem row_at {w : World} {g : Nat} {cs : Array Value} {T : TypeId} (h : w.heap[g]? = some (.cells cs T (0, 0))) : Row w (g + 1) (some ⟨g, 0, none⟩) cs.toList :=
  .inr ⟨_, 0, rfl, Nat.lt_succ_self _, fun j u hu => by rw [Nat.zero_add, cell_of_row _ _ j cs T (0, 0) h]; simpa using hu⟩
/-- A ladder, or none, somewhere in new memory. -/
def DrawnV (w : World) (e : Ending) (w' : World) : Prop :=
  ∃ ll A c, e = .returned (.slice A ll.length c) ∧ LL w' w'.heap.size A ll ∧ ll.length ≤ 7 ∧ ll.length ≤ c ∧ c ≤ maxLen ∧ Below w.heap.size w w'
theorem drawV_end {w w1 w2 : World} {v : Value} {ll : List (List Int)} {L : Nat} (hb : Below w.heap.size w w1) (hg : w1.grownBy w2 (some w.heap.size)) (hR : w.heap.size < w1.heap.size) (ho : OwnLL w2 w1.heap.size L v ll) (hl : ll.length ≤ 7) : DrawnV w (.returned v) w2 := by
  obtain ⟨A, c, rfl, h1, h2, h3⟩ := ho.form
  exact ⟨ll, A, c, rfl, h3, hl, h1, h2, hb.trans (grown_old hg (Nat.le_refl _) (by omega))⟩
end Go.Proofs.YtobgceebolmfcaaDoor
