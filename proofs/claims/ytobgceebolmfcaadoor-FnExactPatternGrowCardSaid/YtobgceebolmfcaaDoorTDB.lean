/- The drawing of a table, a mask and a cell. The draws of chapter 13. -/
import Derived.Test.YtobgceebolmfcaaDoorTDA
import Derived.Test.YtobgceebolmfcaaDoorTS6
import Derived.Test.YtobgceebolmfcaaDoorSBA
namespace Go.Proofs.YtobgceebolmfcaaDoor
open Go.RowKit
/-- A table and a mask, drawn, and the reader. -/
structure HDr (w0 : World) (R B T U : Nat) (tv mv : Value) (t : Tb) (m : Mk) (q : Nat) (w : World) : Prop where
  tm : Mine w B T tv t
  mm : MineB w T U mv m
  rd : RdN w R q
  gr : w0.grownBy w (some R)
  hR : R < B
  hT : B ≤ T
  h0 : w0.heap.size ≤ B
  hU : T ≤ U
section
variable {w0 w w' : World} {R B T U q : Nat} {tv mv : Value} {t : Tb} {m : Mk}
theorem HDr.pick (h : HDr w0 R B T U tv mv t m q w) (hr : RdN w' R (q + 1)) (hg : w.grownBy w' (some R)) : HDr w0 R B T U tv mv t m (q + 1) w' :=
  ⟨h.tm.grown hg h.hR, h.mm.grown hg (by have := h.hR; have := h.hT; omega), hr, grown_trans h.gr hg, h.hR, h.hT, h.h0, h.hU⟩
theorem HDr.below (h : HDr w0 R B T U tv mv t m q w) (hb : Below w.heap.size w w') : HDr w0 R B T U tv mv t m q w' :=
  ⟨h.tm.below hb, h.mm.below hb, h.rd.keep (hb.mono h.rd.lt), grown_below h.gr hb, h.hR, h.hT, h.h0, h.hU⟩
theorem HDr.more {q' : Nat} (h : HDr w0 R B T U tv mv t m q w) (hq : q ≤ q') : HDr w0 R B T U tv mv t m q' w := ⟨h.tm, h.mm, h.rd.more hq, h.gr, h.hR, h.hT, h.h0, h.hU⟩
theorem HDr.flag (h : HDr w0 R B T U tv mv t m q w) {gi j : Nat} {v : Value} {m' : Mk} (hgi : T ≤ gi ∧ gi < U) (hm : MineB (w.setCell ⟨gi, j, none⟩ v) T U mv m') : HDr w0 R B T U tv mv t m' q (w.setCell ⟨gi, j, none⟩ v) := by
  have hR := h.hR
  have hT := h.hT
  have ne : ∀ k, k ≠ gi → (w.setCell ⟨gi, j, none⟩ v).heap[k]? = w.heap[k]? := fun k hk => Below.heap_setCell w ⟨gi, j, none⟩ v k hk
  refine ⟨h.tm.same (by simp [World.setCell]) fun k _ hk => ne k (by omega), hm, h.rd.setCell (a := ⟨gi, j, none⟩) (by show R < gi; omega) v, ?_, hR, hT, h.h0, h.hU⟩
  have h0 := h.h0
  exact ⟨h.gr.os, h.gr.tape, h.gr.output, by simp [World.setCell]; exact h.gr.size, fun k hk hn => (ne k (by omega)).trans (h.gr.block k hk hn)⟩
end
theorem one_blk9 (w : World) (a : Array Value) (T : TypeId) : ∃ W3, W3 = w.alloc (.cells a T) ∧ Below w.heap.size w W3 ∧ W3.heap.size = w.heap.size + 1 ∧ W3.heap[w.heap.size]? = some (.cells a T (0, 0)) :=
  ⟨_, rfl, (Below.refl _ _).alloc (Nat.le_refl _) _, by simp, heap_alloc_new _ _⟩
theorem Tab.rlenD {t : Tb} (h : Tab t) {k : Nat} (hk : k < t.length) : (t.getD k []).length = wd t := h.len _ (by rw [getD_of _ _ hk]; exact List.getElem_mem _)
theorem results_tmp4 {fn : Func} {t u v x : Tmp} (h : fn.results = #[.tmp t, .tmp u, .tmp v, .tmp x]) (tmps : Array Value) (P : Program) (w : World) :
    (results fn tmps).run P w = .ok (.tuple #[tmps.getD t undef, tmps.getD u undef, tmps.getD v undef, tmps.getD x undef]) w := by
  simp [results, h]
def HidDrawn (R q : Nat) (w : World) (e : Ending) (w' : World) : Prop :=
  ∃ tv mv t m i j T U, e = .returned (.tuple #[tv, mv, .int .i64 i, .int .i64 j]) ∧ HDr w R w.heap.size T U tv mv t m q w' ∧ t.length ≤ 4 ∧ (∀ r ∈ t, r.length ≤ 4) ∧ m.length ≤ 5 ∧ ∀ r ∈ m, r.length ≤ 4
theorem set_len4 {m : Mk} {i j : Nat} (hr : ∀ r ∈ m, r.length ≤ 4) (x : Bool) : ∀ r ∈ m.set i ((m.getD i []).set j x), r.length ≤ 4 := fun r h => by
  rcases List.mem_or_eq_of_mem_set h with h | h
  · exact hr r h
  · rw [h, List.length_set]
    by_cases hi : i < m.length
    · rw [getD_of _ _ hi]; exact hr _ (List.getElem_mem hi)
    · rw [List.getD_eq_getElem?_getD, List.getElem?_eq_none (by omega)]; simp
end Go.Proofs.YtobgceebolmfcaaDoor
namespace Go.Proofs.YtobgceebolmfcaaDoor
open Go.RowKit
/-- What is drawn: a table, a mask, a cell; a table and a mask; a table, a mask and rows. -/
def DrawnHid (w : World) (e : Ending) (w' : World) : Prop := ∃ tv mv t m i j, e = .returned (.tuple #[tv, mv, .int .i64 i, .int .i64 j]) ∧ IsR w' tv t ∧ IsM w' mv m ∧ t.length ≤ 4 ∧ (∀ r ∈ t, r.length ≤ 4) ∧ m.length ≤ 5 ∧ (∀ r ∈ m, r.length ≤ 4) ∧ Below w.heap.size w w'
def DrawnHid2 (w : World) (e : Ending) (w' : World) : Prop := ∃ tv mv t m, e = .returned (.tuple #[tv, mv]) ∧ IsR w' tv t ∧ IsM w' mv m ∧ t.length ≤ 4 ∧ (∀ r ∈ t, r.length ≤ 4) ∧ m.length ≤ 5 ∧ (∀ r ∈ m, r.length ≤ 4) ∧ Below w.heap.size w w'
def DrawnFit (w : World) (e : Ending) (w' : World) : Prop := ∃ tv mv xv t m x, e = .returned (.tuple #[tv, mv, xv]) ∧ IsR w' tv t ∧ IsM w' mv m ∧ IsR w' xv x ∧ t.length ≤ 4 ∧ (∀ r ∈ t, r.length ≤ 4) ∧ m.length ≤ 5 ∧ (∀ r ∈ m, r.length ≤ 4) ∧ x.length ≤ 4 ∧ (∀ r ∈ x, r.length ≤ 4) ∧ Below w.heap.size w w'
end Go.Proofs.YtobgceebolmfcaaDoor
