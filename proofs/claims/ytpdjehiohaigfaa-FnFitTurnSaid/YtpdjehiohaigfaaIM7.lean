/- Contracts of the program: the sum of all cells. -/
import Derived.Test.YtpdjehiohaigfaaIM4
import Derived.Test.YtpdjehiohaigfaaRS
import Derived.Test.YtpdjehiohaigfaaTS5
namespace Go.Proofs.Ytpdjehiohaigfaa
open Go.RowKit Go.Shelf
attribute [local go_sem] Oper.semAt_some
def cellP (t : Tb) {q d : Nat} (x : Pc q d) : Int := (t.getD x.1.val []).getD x.2.val 0
theorem finRange_get {α : Type} (l : List α) (z : α) : (List.finRange l.length).map (fun a => l.getD a.val z) = l := by
  refine List.ext_getElem (by simp) fun i h1 h2 => ?_
  simp
theorem sum_flatMap {α : Type} (f : α → List Int) : ∀ l : List α, (l.flatMap f).sum = (l.map fun a => (f a).sum).sum
  | [] => rfl
  | a :: l => by simp [sum_flatMap f l]
theorem plc_sum {q d : Nat} (f : Pc q d → Int) : ((plc q d).map f).sum = ((List.finRange q).map fun a => ((List.finRange d).map fun b => f (a, b)).sum).sum := by
  unfold plc
  rw [List.map_flatMap, sum_flatMap]
  simp [List.map_map, Function.comp_def]
theorem tot_all {t : Tb} (h : ∀ i, i < t.length → (t.getD i []).length = wd t) : ((plc t.length (wd t)).map fun x => cellP t x).sum = tsum t := by
  rw [plc_sum, tsum, rsum]
  have e : (fun a : Fin t.length => ((List.finRange (wd t)).map fun b => cellP t (a, b)).sum) = fun a => (t.getD a.val []).sum := by
    funext a
    have h1 := finRange_get (t.getD a.val []) 0
    rw [h a.val a.isLt] at h1
    exact congrArg List.sum h1
  rw [e]
  have h2 := congrArg (List.map List.sum) (finRange_get t [])
  rw [List.map_map] at h2
  exact congrArg List.sum h2
theorem cellP_bd {t : Tb} (h : tabOk t = true) (x : Pc t.length (wd t)) : 0 ≤ cellP t x ∧ cellP t x ≤ 99 := by
  have hr := tab_row h x.1.isLt
  have hl := tab_lens h x.1.isLt
  simp only [rowOk, Bool.and_eq_true, List.all_eq_true] at hr
  have hj : x.2.val < (t.getD x.1.val []).length := by rw [hl]; exact x.2.isLt
  have := in3_parts.1 (hr.2 _ (List.getElem_mem hj))
  unfold cellP
  rw [getD_of _ _ hj]; exact this
theorem tot_bd {t : Tb} (h : tabOk t = true) : ∀ pre : List (Pc t.length (wd t)), 0 ≤ (pre.map fun x => cellP t x).sum ∧ (pre.map fun x => cellP t x).sum ≤ 99 * pre.length
  | [] => by simp
  | x :: pre => by
    have h1 := tot_bd h pre
    have h2 := cellP_bd h x
    simp only [List.map_cons, List.sum_cons, List.length_cons]
    omega
/-- Three blocks laid one behind the other. -/
theorem three_blk (w : World) (a b c : Array Value) (T T' T'' : TypeId) : ∃ W3, W3 = ((w.alloc (.cells a T)).alloc (.cells b T')).alloc (.cells c T'') ∧ Below w.heap.size w W3 ∧ W3.heap.size = w.heap.size + 1 + 1 + 1 ∧
    W3.heap[w.heap.size]? = some (.cells a T (0, 0)) ∧ W3.heap[w.heap.size + 1]? = some (.cells b T' (0, 0)) ∧ W3.heap[w.heap.size + 1 + 1]? = some (.cells c T'' (0, 0)) := by
  refine ⟨_, rfl, (((Below.refl _ _).alloc (Nat.le_refl _) _).alloc (by simp) _).alloc (by simp; omega) _, by simp, ?_, ?_, ?_⟩
  · exact (Below.heap_alloc _ _ _ (by simp; omega)).trans keepI1
  · exact (Below.heap_alloc _ _ _ (by simp)).trans newI1
  · have h := heap_alloc_new ((w.alloc (.cells a T)).alloc (.cells b T')) (.cells c T'')
    rw [World.size_alloc, World.size_alloc] at h; exact h
end Go.Proofs.Ytpdjehiohaigfaa
