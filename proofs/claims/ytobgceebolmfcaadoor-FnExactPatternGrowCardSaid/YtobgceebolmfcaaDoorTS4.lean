/- Contracts of the model: sums of tables. -/
import Derived.Test.YtobgceebolmfcaaDoorTS3
namespace Go.Proofs.YtobgceebolmfcaaDoor
open Go.RowKit
/-- A list of integers, by its value. -/
def IsI (w : World) (v : Value) (x : List Int) : Prop := ∃ A c, v = .slice A x.length c ∧ x.length ≤ c ∧ c ≤ maxLen ∧ Row w w.heap.size A (icells x)
def InI (w : World) (B T : Nat) (v : Value) (x : List Int) : Prop := T ≤ w.heap.size ∧ Own1 TN w B v (icells x) ∧ ∀ k, v.ownBlock = some k → k < T
section
variable {w w' : World} {B T : Nat} {v : Value} {x : List Int}
theorem IsI.below (h : IsI w v x) (hb : Below w.heap.size w w') : IsI w' v x := by
  obtain ⟨A, c, hv, h1, h2, h3⟩ := h
  exact ⟨A, c, hv, h1, h2, (h3.below hb (Nat.le_refl _)).more hb.size⟩
theorem InI.below (h : InI w B T v x) (hb : Below w.heap.size w w') : InI w' B T v x := ⟨Nat.le_trans h.1 hb.size, h.2.1.below hb, h.2.2⟩
theorem InI.same (h : InI w B T v x) (hz : w.heap.size ≤ w'.heap.size) (hk : ∀ k, B ≤ k → k < T → w'.heap[k]? = w.heap[k]?) : InI w' B T v x :=
  ⟨Nat.le_trans h.1 hz, h.2.1.same fun k e => hk k (h.2.1.ob k e).1 (h.2.2 k e), h.2.2⟩
theorem InI.is (h : InI w B T v x) : IsI w v x := by
  obtain ⟨A, c, hv, h1, h2, h3, _⟩ := h.2.1.form
  rw [icells_len] at hv h1
  exact ⟨A, c, hv, h1, h2, h3⟩
theorem Own1.inI (h : Own1 TN w B v (icells x)) : InI w B w.heap.size v x := ⟨Nat.le_refl _, h, fun k e => (h.ob k e).2⟩
theorem InI.up (h : InI w B T v x) : InI w B w.heap.size v x := h.2.1.inI
theorem InI.lower {B' : Nat} (h : InI w B T v x) (hB : B' ≤ B) : InI w B' T v x := ⟨h.1, h.2.1.less hB, h.2.2⟩
end
def vec (n : Nat) (f : Nat → Int) : List Int := (List.range n).map f
theorem vec_len (n : Nat) (f : Nat → Int) : (vec n f).length = n := by simp [vec]
theorem vec_get (n : Nat) (f : Nat → Int) {i : Nat} (hi : i < n) : (vec n f).getD i 0 = f i := by rw [getD_of _ _ (by rw [vec_len]; exact hi)]; simp [vec]
theorem vec_at (n : Nat) (f : Nat → Int) {i : Nat} (hi : i < n) : (icells (vec n f))[i]? = some (.int .i64 (f i)) := by
  rw [icells_get (by rw [vec_len]; exact hi), vec_get n f hi]
theorem vec_ext {n : Nat} {f g : Nat → Int} (h : ∀ i, i < n → f i = g i) : vec n f = vec n g := List.map_congr_left fun i hi => h i (List.mem_range.1 hi)
theorem vec_set (n : Nat) (f : Nat → Int) (i : Nat) (x : Int) : (vec n f).set i x = vec n fun a => if a = i then x else f a := by
  refine List.ext_getElem (by simp [vec]) fun a ha _ => ?_
  rw [List.getElem_set]
  by_cases h : i = a
  · subst h; simp [vec]
  · have : ¬ a = i := fun e => h e.symm
    simp [vec, h, this]
theorem zrow_vec (n : Nat) : zrow n = vec n fun _ => 0 := by unfold zrow vec; rw [List.map_const', List.length_range]
theorem take_at' {m : List Int} {k : Nat} (h : k < m.length) : (m.take (k + 1)).sum = (m.take k).sum + m.getD k 0 := by
  rw [List.take_succ_eq_append_getElem h, List.sum_append, getD_of _ _ h]; simp
def rsTo (t : Tb) (i j a : Nat) : Int := if a < i then (t.getD a []).sum else if a = i then ((t.getD i []).take j).sum else 0
def csTo (t : Tb) (i j b : Nat) : Int := ((col t b).take (if b < j then i + 1 else i)).sum
theorem rsTo_start (t : Tb) (n : Nat) : vec n (rsTo t 0 0) = zrow n := by
  rw [zrow_vec]; exact vec_ext fun a _ => by
    unfold rsTo
    rw [if_neg (by omega)]
    by_cases h : a = 0
    · rw [if_pos h]; rfl
    · rw [if_neg h]
theorem csTo_start (t : Tb) (n : Nat) : vec n (csTo t 0 0) = zrow n := by rw [zrow_vec]; exact vec_ext fun b _ => by simp [csTo]
theorem rsTo_step (t : Tb) (n : Nat) {i j : Nat} (hj : j < (t.getD i []).length) : (vec n (rsTo t i j)).set i (rsTo t i j i + (t.getD i []).getD j 0) = vec n (rsTo t i (j + 1)) := by
  rw [vec_set]
  refine vec_ext fun a _ => ?_
  unfold rsTo
  by_cases h : a = i
  · subst h
    rw [if_pos rfl, if_neg (by omega), if_pos rfl, if_neg (by omega), if_pos rfl, take_at' hj]
  · rw [if_neg h, if_neg h, if_neg h]
theorem csTo_step (t : Tb) (n : Nat) {i j : Nat} (hi : i < t.length) : (vec n (csTo t i j)).set j (csTo t i j j + (t.getD i []).getD j 0) = vec n (csTo t i (j + 1)) := by
  rw [vec_set]
  refine vec_ext fun b _ => ?_
  unfold csTo
  by_cases h : b = j
  · subst h
    rw [if_pos rfl, if_neg (by omega), if_pos (by omega), take_at' (by rw [col_len]; exact hi), col_get t b hi]
  · rw [if_neg h]
    by_cases h2 : b < j
    · rw [if_pos h2, if_pos (by omega)]
    · rw [if_neg h2, if_neg (by omega)]
theorem rsTo_next (t : Tb) (n i : Nat) : vec n (rsTo t i (t.getD i []).length) = vec n (rsTo t (i + 1) 0) := vec_ext fun a _ => by
  unfold rsTo
  by_cases h : a < i
  · rw [if_pos h, if_pos (by omega)]
  · by_cases h2 : a = i
    · subst h2; rw [if_neg h, if_pos rfl, if_pos (by omega), List.take_length]
    · rw [if_neg h, if_neg h2, if_neg (by omega)]
      by_cases h3 : a = i + 1
      · rw [if_pos h3]; rfl
      · rw [if_neg h3]
theorem csTo_next (t : Tb) (n i : Nat) : vec n (csTo t i n) = vec n (csTo t (i + 1) 0) := vec_ext fun b hb => by
  unfold csTo; rw [if_pos hb, if_neg (by omega)]
theorem rsTo_end (t : Tb) : vec t.length (rsTo t t.length 0) = rsum t := by
  refine List.ext_getElem (by rw [vec_len, rsum_len]) fun a h1 _ => ?_
  rw [vec_len] at h1
  simp only [vec, List.getElem_map, List.getElem_range, rsum]
  unfold rsTo
  rw [if_pos h1, getD_of _ _ h1]
theorem csTo_end (t : Tb) : vec (wd t) (csTo t t.length 0) = csum t := by
  unfold vec csum
  refine List.map_congr_left fun b _ => ?_
  unfold csTo; rw [if_neg (by omega), List.take_of_length_le (by rw [col_len]; omega)]
theorem sum_take_bd {r : List Int} (h : ∀ x ∈ r, 0 ≤ x ∧ x ≤ 99) (k : Nat) (hl : r.length ≤ 4) : 0 ≤ (r.take k).sum ∧ (r.take k).sum ≤ 396 := by
  have := sum_bd99 (r.take k) fun x hx => h x (List.mem_of_mem_take hx)
  have := List.length_take_le k r
  have : (r.take k).length ≤ r.length := by rw [List.length_take]; omega
  omega
theorem cell_bd {t : Tb} (h : Tab t) {i j : Nat} (hi : i < t.length) (hj : j < wd t) : 0 ≤ (t.getD i []).getD j 0 ∧ (t.getD i []).getD j 0 ≤ 99 := by
  have hm : t.getD i [] ∈ t := by rw [getD_of _ _ hi]; exact List.getElem_mem _
  rw [getD_of (t.getD i []) 0 (by rw [h.len _ hm]; exact hj)]
  exact h.bd _ hm _ (List.getElem_mem _)
theorem col_bd {t : Tb} (h : Tab t) {j : Nat} (hj : j < wd t) : ∀ x ∈ col t j, 0 ≤ x ∧ x ≤ 99 := fun x hx => by
  obtain ⟨r, hr, rfl⟩ := List.mem_map.1 hx
  rw [getD_of r 0 (by rw [h.len r hr]; exact hj)]
  exact h.bd r hr _ (List.getElem_mem _)
theorem rsTo_bd {t : Tb} (h : Tab t) (i j : Nat) (hi : i < t.length) : 0 ≤ rsTo t i j i ∧ rsTo t i j i ≤ 396 := by
  unfold rsTo
  rw [if_neg (by omega), if_pos rfl]
  have hm : t.getD i [] ∈ t := by rw [getD_of _ _ hi]; exact List.getElem_mem _
  exact sum_take_bd (h.bd _ hm) j (by rw [h.len _ hm]; exact h.w4)
theorem csTo_bd {t : Tb} (h : Tab t) (i : Nat) {j : Nat} (hj : j < wd t) : 0 ≤ csTo t i j j ∧ csTo t i j j ≤ 396 := by
  unfold csTo
  exact sum_take_bd (col_bd h hj) _ (by rw [col_len]; exact h.h4)
def rsumI (t : Tb) : List Int := if tabOk t = true then rsum t else []
def csumI (t : Tb) : List Int := if tabOk t = true then csum t else []
/-- Two lists of sums are handed back, each apart from the other. -/
def OutS (r c : List Int) (g : Bool) (w : World) (e : Ending) (w' : World) : Prop :=
  ∃ v u, e = .returned (.tuple #[v, u, .bool g]) ∧ InI w' w.heap.size w'.heap.size v r ∧ InI w' w.heap.size w'.heap.size u c ∧ (∀ k, v.ownBlock = some k → u.ownBlock ≠ some k) ∧ Below w.heap.size w w'
theorem made_zrow {w : World} {B : Nat} {g n : Nat} (h : w.ownsRow B TN 1 (.slice (some ⟨g, 0, none⟩) n n) n (madeCells (Value.int IntKind.i64 0).cells (n * 1)).toList) : Own1 TN w B (.slice (some ⟨g, 0, none⟩) n n) (icells (zrow n)) := by
  have e : (Value.int IntKind.i64 0).cells = #[.int .i64 0] := rfl
  rw [e, made_one] at h
  unfold Own1
  rw [zrow_cells, List.length_replicate]; exact h
end Go.Proofs.YtobgceebolmfcaaDoor
