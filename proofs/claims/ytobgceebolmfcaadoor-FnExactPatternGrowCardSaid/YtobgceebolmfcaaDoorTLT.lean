/- Contracts of the model: folding. Contracts of the model: TableFold. -/
import Derived.Test.YtobgceebolmfcaaDoorTS7
import Derived.Deep.RegionLaw
namespace Go.Proofs.YtobgceebolmfcaaDoor
open Go.RowKit
theorem Row.front1 {w : World} {B : Nat} {A : Option Addr} {hs : List Value} (k : Nat) (h : Row w B A hs) : Row w B A (hs.take k) := by
  rcases h with h | ⟨b, o, rfl, hb, hc⟩
  · left; rw [h]; simp
  · right
    refine ⟨b, o, rfl, hb, fun j u hu => hc j u ?_⟩
    rw [List.getElem?_take] at hu
    split at hu
    · exact hu
    · cases hu
theorem Row.cut1 {w : World} {B : Nat} {A : Option Addr} {hs : List Value} {c k : Nat} (h : Row w B A hs) (hk : k ≤ hs.length) (hc : hs.length ≤ c) :
    Row w B (if c = k then A else A.map (·.add (k * 1))) (hs.drop k) := by
  by_cases hkl : k = hs.length
  · left; rw [List.drop_eq_nil_of_le (by omega)]
  · rcases h with h | ⟨b, o, rfl, hb, hcell⟩
    · rw [h] at hk hkl; simp at hk hkl; omega
    · right
      rw [if_neg (by omega)]
      refine ⟨b, o + k * 1, by simp [Addr.add_lit], hb, fun j u hu => ?_⟩
      rw [Nat.mul_one, Nat.add_assoc]
      refine hcell (k + j) u ?_
      rw [← hu, List.getElem?_drop]
theorem sliceTailR (B : Option Addr) (n d k : Nat) (hk : k ≤ n) (hn : n ≤ d) : ∃ B2, (∀ w, (Instr.sliceAt TII (.slice B n d) (some (.int .i64 (k : Int))) none none).run Tryd.prog w = .ok (.slice B2 (n - k) (d - k)) w) ∧
    ∀ W Bd hs, hs.length = n → Row W Bd B hs → Row W Bd B2 (hs.drop k) := by
  refine ⟨if d = k then B else B.map (·.add (k * 1)), fun w => ?_, fun W Bd l hl hr => hr.cut1 (by omega) (by omega)⟩
  obtain ⟨i0, hi0, hz0, hs0, hs1⟩ := info_parts (P := Tryd.prog) (e := TI) (z := .slice none 0 0) (size := 1) (bytes := 24) (by kernel_rfl)
  have hu : Tryd.prog.underlying TII = some (.slice TI) := Tryd.underlying23
  have he : Tryd.prog.elem TII = TI := by simp [Program.elem, hu]
  rw [run_sliceAt_slice w TII _ _ _ _ (by rw [he]; exact hu), run_slice_l w TII B n d (by rw [he]; exact hu) .i64 (k : Int) (by omega) (by omega)]
  rw [he]
  simp [sizeOf, typeInfo, hi0, hs0, sliced, Result.andThen]
theorem getD_erase {α : Type} (l : List α) (b i : Nat) (d : α) : (l.eraseIdx b).getD i d = if i < b then l.getD i d else l.getD (i + 1) d := by
  rw [List.getD_eq_getElem?_getD, List.getElem?_eraseIdx]
  split <;> rw [List.getD_eq_getElem?_getD]
theorem Rws.erase {w : World} {B T : Nat} {no no' : Option Nat} {hs : List Value} {ll : List (List Int)} (h : Rws w B T no hs ll) {b : Nat} (hb : b < ll.length) (hno : ∀ k, B ≤ k → k < T → some k ≠ no') : Rws w B T no' (hs.eraseIdx b) (ll.eraseIdx b) := by
  obtain ⟨h1, h2, h3⟩ := h
  have hl : (ll.eraseIdx b).length = ll.length - 1 := by rw [List.length_eraseIdx, if_pos hb]
  have key : ∀ i, i < ll.length - 1 → ∃ i', i' < ll.length ∧ (hs.eraseIdx b).getD i nilS = hs.getD i' nilS ∧ (ll.eraseIdx b).getD i [] = ll.getD i' [] ∧ i' = (if i < b then i else i + 1) := fun i hi => by
    refine ⟨if i < b then i else i + 1, by split <;> omega, ?_, ?_, rfl⟩
    · rw [getD_erase]; split <;> rfl
    · rw [getD_erase]; split <;> rfl
  refine ⟨by rw [List.length_eraseIdx, h1, hl, if_pos hb], fun i hi => ?_, fun i j k hij hj e => ?_⟩
  · rw [hl] at hi
    obtain ⟨i', hi', e1, e2, _⟩ := key i hi
    rw [e1, e2]
    obtain ⟨a, c⟩ := h2 i' hi'
    exact ⟨a, fun k ek => ⟨(c k ek).1, hno k (a.ob k ek).1 (c k ek).1⟩⟩
  · rw [hl] at hj
    obtain ⟨i', hi', e1, _, e3⟩ := key i (by omega)
    obtain ⟨j', hj', f1, _, f3⟩ := key j hj
    rw [e1] at e
    rw [f1]
    refine h3 i' j' k ?_ hj' e
    rw [e3, f3]
    split <;> split <;> omega
/-- The row i when the first cells of the row j have been added. -/
def rowTo (t : Tb) (i j k : Nat) : List Int := vec (wd t) fun c => (t.getD i []).getD c 0 + if c < k then (t.getD j []).getD c 0 else 0
theorem rowTo_zero {t : Tb} (h : tabOk t = true) {i : Nat} (hi : i < t.length) (j : Nat) : rowTo t i j 0 = t.getD i [] := by
  have hl := tab_lens h hi
  refine List.ext_getElem (by rw [rowTo, vec_len, hl]) fun c h1 h2 => ?_
  simp only [rowTo, vec, List.getElem_map, List.getElem_range]
  rw [if_neg (by omega), getD_of _ _ h2]; simp
theorem rowTo_all {t : Tb} (h : tabOk t = true) {i j : Nat} (hi : i < t.length) (hj : j < t.length) : rowTo t i j (wd t) = addRow (t.getD i []) (t.getD j []) := by
  have hl := tab_lens h hi
  have hl2 := tab_lens h hj
  refine List.ext_getElem (by rw [rowTo, vec_len, addRow_len (by omega), hl]) fun c h1 h2 => ?_
  rw [rowTo, vec_len] at h1
  rw [← getD_of (addRow _ _) 0 h2, addRow_get (by omega)]
  simp only [rowTo, vec, List.getElem_map, List.getElem_range]
  rw [if_pos h1]
theorem rowTo_len (t : Tb) (i j k : Nat) : (rowTo t i j k).length = wd t := vec_len _ _
theorem rowTo_get (t : Tb) (i j : Nat) {k : Nat} (hk : k < wd t) : (rowTo t i j k).getD k 0 = (t.getD i []).getD k 0 := by
  rw [rowTo, vec_get _ _ hk, if_neg (by omega)]; simp
theorem rowTo_step (t : Tb) (i j : Nat) {k : Nat} : (rowTo t i j k).set k ((t.getD i []).getD k 0 + (t.getD j []).getD k 0) = rowTo t i j (k + 1) := by
  rw [rowTo, vec_set, rowTo]
  refine vec_ext fun c _ => ?_
  by_cases h : c = k
  · subst h; rw [if_pos rfl, if_pos (by omega)]
  · rw [if_neg h]
    by_cases h2 : c < k
    · rw [if_pos h2, if_pos (by omega)]
    · rw [if_neg h2, if_neg (by omega)]
theorem set_getD (t : Tb) {i : Nat} (hi : i < t.length) : t.set i (t.getD i []) = t := by
  rw [getD_of _ _ hi]; exact List.set_getElem_self ..
theorem getD_set_self (t : Tb) {i : Nat} (hi : i < t.length) (r : List Int) : (t.set i r).getD i [] = r := by
  rw [List.getD_eq_getElem?_getD, List.getElem?_set_self hi]; rfl
end Go.Proofs.YtobgceebolmfcaaDoor
namespace Go.Proofs.YtobgceebolmfcaaDoor
open Go.RowKit
theorem fold_no1 {t : Tb} {a b : Int} (h : tabOk t = false) : foldOk t a b = false := by simp [foldOk, h]
theorem fold_no2 {t : Tb} {a b : Int} (h : in3 b 0 (t.length - 1) = false) : foldOk t a b = false := by simp [foldOk, h]
theorem fold_no3 {t : Tb} {a b : Int} (h : in3 a 0 (b - 1) = false) : foldOk t a b = false := by simp [foldOk, h]
theorem foldI_no {t : Tb} {a b : Int} (h : foldOk t a b = false) : foldI t a b = [] := by rw [foldI, h]; rfl
theorem erase_two {α : Type} (l : List α) (b : Nat) : l.eraseIdx b = l.take b ++ l.drop (b + 1) := List.eraseIdx_eq_take_drop_succ l b
theorem Rws.wide {w : World} {B B' T T' : Nat} {no : Option Nat} {hs : List Value} {ll : List (List Int)} (h : Rws w B T no hs ll) (hB : B' ≤ B) (hT : T ≤ T') : Rws w B' T' no hs ll :=
  ⟨h.1, fun i hi => ⟨(h.2.1 i hi).1.less hB, fun k e => ⟨by have := ((h.2.1 i hi).2 k e).1; omega, ((h.2.1 i hi).2 k e).2⟩⟩, h.2.2⟩
end Go.Proofs.YtobgceebolmfcaaDoor
