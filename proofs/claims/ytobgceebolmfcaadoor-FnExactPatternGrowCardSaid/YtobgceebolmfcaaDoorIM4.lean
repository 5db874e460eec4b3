/- Contracts of the program: a table with its size. -/
import Derived.Test.YtobgceebolmfcaaDoorIM3
import Derived.Test.YtobgceebolmfcaaDoorRS
namespace Go.Proofs.YtobgceebolmfcaaDoor
open Go.RowKit Go.Shelf
attribute [local go_sem] Oper.semAt_some
abbrev TGI : TypeId := 59
theorem tab_rect {t : Tb} (h : tabOk t = true) : rect t = true := by
  have h1 := tab_iff.1 h
  exact rect_all (by simp only [in3, Bool.and_eq_true, decide_eq_true_eq]; exact ⟨⟨by have := h1.h1; omega, by have := h1.h4; omega⟩, by have := h1.w1; omega, by have := h1.w4; omega⟩) fun i hi => tab_lens h hi
theorem rect_parts {t : Tb} (h : rect t = true) : (1 ≤ t.length ∧ t.length ≤ 4) ∧ 1 ≤ wd t ∧ wd t ≤ 4 := by
  simp only [rect, Bool.and_eq_true] at h
  have := in3_parts.1 h.1.1; have := in3_parts.1 h.1.2; omega
theorem tab_cells {t : Tb} (h : rect t = true) (hc : ∀ x : Pc t.length (wd t), in3 ((t.getD x.1.val []).getD x.2.val 0) 0 99 = true) : tabOk t = true := by
  have hp := h
  simp only [rect, Bool.and_eq_true] at hp
  exact tab_all hp.1.1 hp.1.2 fun i hi => row_all (rect_row h hi) fun j hj => hc (⟨i, hi⟩, ⟨j, by rw [← rect_row h hi]; exact hj⟩)
theorem tab_cell_bad {t : Tb} (x : Pc t.length (wd t)) (hr : rect t = true) (h : in3 ((t.getD x.1.val []).getD x.2.val 0) 0 99 = false) : tabOk t = false :=
  tab_bad x.1.isLt (row_cell_bad (by rw [rect_row hr x.1.isLt]; exact x.2.isLt) h)
/-- A table's lengths, and numbers from 0 to k. -/
def numOk (t : Tb) (k : Int) : Bool := rect t && t.all fun r => r.all fun x => in3 x 0 k
theorem num_iff {t : Tb} {k : Int} : numOk t k = true ↔ rect t = true ∧ ∀ r ∈ t, ∀ x ∈ r, in3 x 0 k = true := by simp only [numOk, Bool.and_eq_true, List.all_eq_true]
theorem num_cells {t : Tb} {k : Int} (h : rect t = true) (hc : ∀ x : Pc t.length (wd t), in3 ((t.getD x.1.val []).getD x.2.val 0) 0 k = true) : numOk t k = true := by
  refine num_iff.2 ⟨h, fun r hr y hy => ?_⟩
  obtain ⟨i, hi, rfl⟩ := List.getElem_of_mem hr
  obtain ⟨j, hj, rfl⟩ := List.getElem_of_mem hy
  have hl := rect_row h hi
  rw [getD_of _ _ hi] at hl
  have h1 := hc (⟨i, hi⟩, ⟨j, by omega⟩)
  dsimp only at h1
  rw [getD_of _ _ hi, getD_of _ _ hj] at h1
  exact h1
theorem num_cell_bad {t : Tb} {k : Int} (x : Pc t.length (wd t)) (hr : rect t = true) (h : in3 ((t.getD x.1.val []).getD x.2.val 0) 0 k = false) : numOk t k = false := by
  cases hk : numOk t k
  · rfl
  · have hi := x.1.isLt
    have hj : x.2.val < (t.getD x.1.val []).length := by rw [rect_row hr hi]; exact x.2.isLt
    have h1 := (num_iff.1 hk).2 (t.getD x.1.val []) (by rw [getD_of _ _ hi]; exact List.getElem_mem hi) ((t.getD x.1.val []).getD x.2.val 0) (by rw [getD_of _ _ hj]; exact List.getElem_mem hj)
    rw [h] at h1; cases h1
theorem num_rect {t : Tb} {k : Int} (h : numOk t k = true) : rect t = true := (num_iff.1 h).1
theorem tab_num (t : Tb) : numOk t 99 = tabOk t := by
  rw [Bool.eq_iff_iff]
  constructor
  · intro h
    exact tab_cells (num_rect h) fun x => by
      have hi := x.1.isLt
      have hj : x.2.val < (t.getD x.1.val []).length := by rw [rect_row (num_rect h) hi]; exact x.2.isLt
      exact (num_iff.1 h).2 (t.getD x.1.val []) (by rw [getD_of _ _ hi]; exact List.getElem_mem hi) ((t.getD x.1.val []).getD x.2.val 0) (by rw [getD_of _ _ hj]; exact List.getElem_mem hj)
  · intro h
    cases hk : numOk t 99
    · have hr := tab_rect h
      have : ¬ ∀ x : Pc t.length (wd t), in3 ((t.getD x.1.val []).getD x.2.val 0) 0 99 = true := fun hh => by rw [num_cells hr hh] at hk; cases hk
      exact absurd (fun x => by
        cases hx : in3 ((t.getD x.1.val []).getD x.2.val 0) 0 99
        · rw [tab_cell_bad x hr hx] at h; cases h
        · rfl) this
    · rfl
theorem gridV_no {t : Tb} {v : Value} : gridV t v false = grV 0 0 (.slice none 0 0) := rfl
theorem gridV_yes {t : Tb} {v : Value} : gridV t v true = grV t.length (wd t) v := rfl
/-- Three blocks at the beginning of a call. -/
theorem three_new (w : World) (m a b c x : Value) (T0 T T' : TypeId) : ∃ W2, W2 = ((w.alloc (.cells #[m] T0)).alloc (.cells #[a, b, c] T)).alloc (.cells #[x] T') ∧ Below w.heap.size w W2 ∧ W2.heap.size = w.heap.size + 1 + 1 + 1 ∧
    (∀ X, Below W2.heap.size W2 X → X.heap[w.heap.size]? = some (.cells #[m] T0 (0, 0)) ∧ X.heap[w.heap.size + 1]? = some (.cells #[a, b, c] T (0, 0)) ∧ Boxed X (w.heap.size + 1 + 1) T' x ∧ Below w.heap.size w X) := by
  obtain ⟨W2, hW⟩ : ∃ W2, W2 = ((w.alloc (.cells #[m] T0)).alloc (.cells #[a, b, c] T)).alloc (.cells #[x] T') := ⟨_, rfl⟩
  have hb : Below w.heap.size w W2 := by rw [hW]; exact (((Below.refl _ _).alloc (Nat.le_refl _) _).alloc (by simp) _).alloc (by simp; omega) _
  have hz : W2.heap.size = w.heap.size + 1 + 1 + 1 := by rw [hW]; simp
  have km : W2.heap[w.heap.size]? = some (.cells #[m] T0 (0, 0)) := by rw [hW]; exact (Below.heap_alloc _ _ _ (by simp; omega)).trans keepI1
  have k0 : W2.heap[w.heap.size + 1]? = some (.cells #[a, b, c] T (0, 0)) := by rw [hW]; exact (Below.heap_alloc _ _ _ (by simp)).trans newI1
  have k1 : W2.heap[w.heap.size + 1 + 1]? = some (.cells #[x] T' (0, 0)) := by
    rw [hW]
    have h := heap_alloc_new ((w.alloc (.cells #[m] T0)).alloc (.cells #[a, b, c] T)) (.cells #[x] T')
    rw [World.size_alloc, World.size_alloc] at h; exact h
  exact ⟨W2, hW, hb, hz, fun X h => ⟨(h.block _ (by omega)).trans km, (h.block _ (by omega)).trans k0, (h.block _ (by omega)).trans k1, hb.trans (h.mono hb.size)⟩⟩
theorem set3b {w : World} {g : Nat} {t : TypeId} {a0 a1 a2 : Value} (h : w.heap[g]? = some (.cells #[a0, a1, a2] t (0, 0))) (b0 b1 b2 : Value) :
    (((w.setCell ⟨g, 0, none⟩ b0).setCell ⟨g, 1, none⟩ b1).setCell ⟨g, 2, none⟩ b2).heap[g]? = some (.cells #[b0, b1, b2] t (0, 0)) := by
  simp [World.setCell, Array.getElem?_modify, h]
theorem fin4b {w : World} {g : Nat} {t tb : TypeId} {a0 a1 a2 v0 : Value} (h : w.heap[g]? = some (.cells #[a0, a1, a2] t (0, 0))) (h2 : Boxed w (g + 1) tb v0) (b0 b1 b2 v : Value) :
    ((((w.setCell ⟨g, 0, none⟩ b0).setCell ⟨g, 1, none⟩ b1).setCell ⟨g, 2, none⟩ b2).setCell ⟨g + 1, 0, none⟩ v).heap[g]? = some (.cells #[b0, b1, b2] t (0, 0)) ∧
    Boxed ((((w.setCell ⟨g, 0, none⟩ b0).setCell ⟨g, 1, none⟩ b1).setCell ⟨g, 2, none⟩ b2).setCell ⟨g + 1, 0, none⟩ v) (g + 1) tb v ∧
    (∀ N X, N ≤ g → Below N X w → Below N X ((((w.setCell ⟨g, 0, none⟩ b0).setCell ⟨g, 1, none⟩ b1).setCell ⟨g, 2, none⟩ b2).setCell ⟨g + 1, 0, none⟩ v)) ∧
    (∀ N, KeepsFrom N w ((((w.setCell ⟨g, 0, none⟩ b0).setCell ⟨g, 1, none⟩ b1).setCell ⟨g, 2, none⟩ b2).setCell ⟨g + 1, 0, none⟩ v)) := by
  refine ⟨(Below.heap_setCell _ ⟨g + 1, 0, none⟩ v g (by show g ≠ g + 1; omega)).trans (set3b h _ _ _), ?_, fun N X hN hb => ?_, fun N => ?_⟩
  · have k : ∀ j, ∀ u, ∀ y : World, (y.setCell ⟨g, j, none⟩ u).heap[g + 1]? = y.heap[g + 1]? := fun j u y => Below.heap_setCell _ ⟨g, j, none⟩ u (g + 1) (by show g + 1 ≠ g; omega)
    have h3 : Boxed (((w.setCell ⟨g, 0, none⟩ b0).setCell ⟨g, 1, none⟩ b1).setCell ⟨g, 2, none⟩ b2) (g + 1) tb v0 := by
      unfold Boxed at *; rw [k, k, k]; exact h2
    exact h3.set v
  · exact ((((hb.setCell (p := ⟨g, 0, none⟩) hN b0).setCell (p := ⟨g, 1, none⟩) hN b1).setCell (p := ⟨g, 2, none⟩) hN b2).setCell (p := ⟨g + 1, 0, none⟩) (by show N ≤ g + 1; omega) v)
  · exact ((((KeepsOthers.setCell w ⟨g, 0, none⟩ b0).trans (KeepsOthers.setCell _ ⟨g, 1, none⟩ b1)).trans (KeepsOthers.setCell _ ⟨g, 2, none⟩ b2)).trans (KeepsOthers.setCell _ ⟨g + 1, 0, none⟩ v)).from _
theorem keepsF {X Y : World} (h : Below X.heap.size X Y) (B : Nat) : KeepsFrom B X Y := ⟨h.size, fun k _o _ hk _ => (h.block k (Array.getElem?_eq_some_iff.1 hk).1).trans hk⟩
set_option maxRecDepth 100000 in
set_option maxHeartbeats 400000 in
theorem iNum_is (W : World) (t : Tb) (v : Value) (hv : IsR W v t) (mx : Int) (g : Bool) (hg : numOk t mx = g) (w : World) (hb : Below W.heap.size W w) :
    Calls Tryd.prog 78 #[v, .int .i64 mx] w (Back (.tuple #[gridV t v g, .bool g]) W) := by
  obtain ⟨W2, hW, hb2, hz2, hf⟩ := three_new w (.int .i64 mx) (.int .i64 0) (.int .i64 0) (.slice none 0 0) (.bool false) 3 TGI 4
  have HB2 := Lib.hid (hb.trans (hb2.mono hb.size))
  obtain ⟨q, hq⟩ : ∃ q, q = t.length := ⟨_, rfl⟩
  obtain ⟨d, hd⟩ : ∃ d, d = wd t := ⟨_, rfl⟩
  have HQ := Lib.hid hq
  have HD := Lib.hid hd
  obtain ⟨A, c, rfl, a1, a2, hr⟩ := hv
  rw [← hq]
  have HV := Lib.hid (show IsR W2 (.slice A q c) t from (show IsR W (.slice A q c) t by rw [hq]; exact ⟨A, c, rfl, a1, a2, hr⟩).below HB2.out)
  obtain ⟨V, hV⟩ : ∃ V, V = gridV t (.slice A q c) g := ⟨_, rfl⟩
  have HVV := Lib.hid hV
  rw [← hV]
  have HR := Lib.hid hr
  have HF := Lib.hid hf
  have HZ2 := Lib.hid hz2
  have HG := Lib.hid hg
  have hWw := hb.size
  have HW := Lib.hid hW.symm
  obtain ⟨r, hrr⟩ : ∃ r, rect t = r := ⟨_, rfl⟩
  have HRR := Lib.hid hrr
  clear hg hr hb2 hz2 hW hrr hb hf a1 a2 hq hd hV
  refine (callsIn_wide (n := 6)).1 ?_
  refine callsIn_of_wp_marks Tryd.func78 rfl trivial ?_ rfl
  simp only [Tryd.ntmps78, List.size_toArray, List.length_cons, List.length_nil, Nat.reduceAdd, Nat.reduceSub, Array.replicate_succ, Array.replicate_zero, List.push_toArray, List.append_toArray, List.nil_append, List.cons_append]
  gi_wp2_with fail
  rw [HW.out]
  refine ⟨trivial, ?_⟩
  refine (callsIn_wide.2 (iGrid_is W2 t _ HV.out r HRR.out _ (Below.refl _ _))).mono ?_
  rintro e w1 ⟨rfl, b1⟩
  have HB1 := Lib.hid b1
  have hz1 := b1.size
  cases r
  · rw [gridV_no]
    have HE := Lib.hid (show g = false by
      cases hg : g
      · rfl
      · have := num_rect (HG.out.trans hg); rw [HRR.out] at this; cases this)
    have hz2 := HZ2.out
    have ba : Below W2.heap.size W2 (w1.alloc (.cells #[.int .i64 0, .int .i64 0, .slice none 0 0] TGI)) := b1.alloc hz1 _
    obtain ⟨c0, c1, c2, f0, f1, f2⟩ := blkG3 (HF.out _ ba).2.1
    have c3 := (HF.out _ ba).2.2.1.cell
    have f3 := (HF.out _ ba).2.2.1.frozen
    gi_wp2
    refine ⟨.tuple #[grV 0 0 (.slice none 0 0), .bool false], by simp [results, Tryd.results78, go_sem, *], by rw [HVV.out, HE.out]; rfl, ?_⟩
    exact HB2.out.trans (((((ba.mono (show W.heap.size ≤ W2.heap.size by omega)).setCell (p := ⟨w.heap.size + 1, 0, none⟩) (by show W.heap.size ≤ w.heap.size + 1; omega) _).setCell (p := ⟨w.heap.size + 1, 1, none⟩) (by show W.heap.size ≤ w.heap.size + 1; omega) _).setCell (p := ⟨w.heap.size + 1, 2, none⟩) (by show W.heap.size ≤ w.heap.size + 1; omega) _).setCell (p := ⟨w.heap.size + 1 + 1, 0, none⟩) (by show W.heap.size ≤ w.heap.size + 1 + 1; omega) _)
  have hp := rect_parts HRR.out
  rw [← HQ.out, ← HD.out] at hp
  obtain ⟨b, o, _, _, rfl, _, _, _, _, _⟩ := HR.out.at_ 0 (by rw [← HQ.out]; omega)
  rw [gridV_yes, ← HQ.out, ← HD.out]
  gi_wp2_with fail
  refine ⟨trivial, ?_⟩
  refine (callsIn_wide.2 (iPlaces_any q d _)).mono ?_
  rintro e w3 ⟨rfl, rfl⟩
  gi_wp2
  obtain ⟨W5, hW5⟩ : ∃ W5, W5 = (w1.alloc (.cells #[.int .i64 q, .int .i64 d, .slice (some ⟨b, o, none⟩) q c] TGI)).alloc (.cells #[.int .i64 q, .int .i64 d] TG) := ⟨_, rfl⟩
  have k4 : W5.heap[w1.heap.size]? = some (.cells #[.int .i64 q, .int .i64 d, .slice (some ⟨b, o, none⟩) q c] TGI (0, 0)) := by rw [hW5]; exact keepI1
  have k5 : W5.heap[w1.heap.size + 1]? = some (.cells #[.int .i64 q, .int .i64 d] TG (0, 0)) := by rw [hW5]; exact newI1
  have hz5 : W5.heap.size = w1.heap.size + 1 + 1 := by rw [hW5]; simp
  have b5 : Below W2.heap.size W2 W5 := by rw [hW5]; exact (b1.alloc hz1 _).alloc (by simp; omega) _
  rw [← hW5]
  have HB5 := Lib.hid b5
  have HK4 := Lib.hid (show ∀ X, Below W5.heap.size W5 X → X.heap[w1.heap.size]? = some (.cells #[.int .i64 q, .int .i64 d, .slice (some ⟨b, o, none⟩) q c] TGI (0, 0)) from fun X h => (h.block _ (by omega)).trans k4)
  have hlt5 : w1.heap.size + 1 < W5.heap.size := by omega
  have hw5 : w.heap.size ≤ W5.heap.size := by have := HZ2.out; omega
  clear hW5 k4 b5 hz5
  refine' wpIn_rangeFunc_ownG (α := Pc q d) rfl (by omega) (gf := 80) (lb := #[.pointer (some ⟨w1.heap.size + 1, 0, none⟩)]) rfl trivial (enters_of Tryd.func80 (by kernel_rfl) rfl)
    (places_stops 5 (by omega) (w1.heap.size + 1) q d (by omega) (by omega) W5 (by omega) k5) kB_t (kB_b hlt5) (Below.refl _ _) (fun _ => rfl)
    (fun pre X => (∀ x ∈ pre, in3 ((t.getD x.1.val []).getD x.2.val 0) 0 mx = true) ∧ Below W5.heap.size W5 X)
    (fun cd _ X => (cd = .ret ∧ g = false ∧ X.heap[w.heap.size + 1]? = some (.cells #[.int .i64 0, .int .i64 0, .slice none 0 0] TGI (0, 0)) ∧ Boxed X (w.heap.size + 1 + 1) 4 (.bool false)) ∧ Below w.heap.size W5 X)
    (OwnFrom.and (ownFrom_pure _ _) (ownFrom_below (Nat.le_refl _) (Nat.le_refl _)))
    (fun _ => OwnFrom.and (fun s X Y row hs hg hr => by
      obtain ⟨h1, h2, h3, h4⟩ := hs
      exact ⟨h1, h2, (grownBy_keeps_cells hg (fun r e => (hr r e).2) h3 rfl).trans h3, boxed_own _ 4 (fun (_ : Unit) => Value.bool false) () X Y row h4 hg (fun r e => (hr r e).2)⟩) (ownFrom_below (by have := HZ2.out; omega) (by have := HZ2.out; omega)))
    ⟨(fun _ h => by cases h), Below.refl _ _⟩
    _ ?assign ?body ?done ?stop
  case assign =>
    intro l x X K hK
    gi_wp2
    exact hK
  case body =>
    rintro l pre ⟨⟨i, hi⟩, ⟨j, hj⟩⟩ X ⟨hp, hbX⟩ hlen
    have hz2 := HZ2.out
    have hWX : Below W.heap.size W X := (HB2.out.trans (HB5.out.mono HB2.out.size)).trans (hbX.mono (Nat.le_trans HB2.out.size HB5.out.size))
    have hit : i < t.length := by rw [← HQ.out]; exact hi
    have hln : (t.getD i []).length = d := by rw [rect_row HRR.out hit, HD.out]
    obtain ⟨b', o', b2, o2, c2, hA, hb1, hc1, _, hb3, hc2⟩ := HR.out.cell2 (i := i) (j := j) hit (by rw [hln]; exact hj)
    injection hA with hA
    injection hA with g1 g2 _
    subst g1 g2
    have e1 := (hWX.cell (p := ⟨b, o + i, none⟩) hb1).trans hc1
    have e2 := (hWX.cell (p := ⟨b2, o2 + j, none⟩) hb3).trans hc2
    rw [hln] at e1
    obtain ⟨y, hy⟩ : ∃ y, (t.getD i []).getD j 0 = y := ⟨_, rfl⟩
    rw [hy] at e2
    obtain ⟨_, _, e0, _, _, _⟩ := blkG3 (HK4.out X hbX)
    have em : X.cell? ⟨w.heap.size, 0, none⟩ = some (.int .i64 mx) := Boxed.cell (HF.out _ (HB5.out.trans (hbX.mono HB5.out.size))).1
    have HBX := Lib.hid hbX
    have HY := Lib.hid hy
    have HPP := Lib.hid hp
    have hii : (i : Int) < (q : Int) := by omega
    have hji : (j : Int) < (d : Int) := by omega
    have HLN := Lib.hid hln
    clear hc1 hc2 hln hlen hy hp hbX hWX
    cases hin : in3 y 0 mx
    · have HE := Lib.hid (show g = false by rw [← HG.out]; exact num_cell_bad (⟨i, hit⟩, ⟨j, by rw [← HD.out]; exact hj⟩) HRR.out (by show in3 ((t.getD i []).getD j 0) 0 mx = false; rw [HY.out]; exact hin))
      have hx5 := HB5.out.trans (HBX.out.mono HB5.out.size)
      have HX5 := Lib.hid hx5
      have FIN := Lib.hid (fun n : Nat => fin4b (HF.out _ (below_draws hx5 n)).2.1 (HF.out _ (below_draws hx5 n)).2.2.1 (.int .i64 0) (.int .i64 0) (.slice none 0 0) (.bool false))
      clear hx5
      have hor : y < 0 ∨ (¬ y < 0 ∧ mx < y) := by
        by_cases h0 : y < 0
        · exact .inl h0
        · refine .inr ⟨h0, ?_⟩
          simp only [in3, Bool.and_eq_false_iff, decide_eq_false_iff_not] at hin
          omega
      clear hin
      rcases hor with h0 | ⟨h0, h1⟩
      · gi_wp2
        refine region_quiet_round (by kernel_rfl) (by kernel_rfl) (by kernel_rfl) ?_
        repeat (go_big_quiet_step (fail))
        refine wpQuiet_nil ?_
        rintro _ ⟨nq, rfl⟩
        obtain ⟨c0, c1, c2, f0, f1, f2⟩ := blkG3 (HF.out _ (below_draws HX5.out nq)).2.1
        have c3 := (HF.out _ (below_draws HX5.out nq)).2.2.1.cell
        have f3 := (HF.out _ (below_draws HX5.out nq)).2.2.1.frozen
        gi_wp2
        obtain ⟨q1, q2, q3, q4⟩ := FIN.out nq
        exact ⟨(keepsF (below_draws (Below.refl _ X) nq) _).trans (q4 _), ⟨rfl, HE.out, q1, q2⟩, q3 w.heap.size W5 (Nat.le_succ _) (below_draws (HBX.out.mono (by omega)) nq)⟩
      · have hd0 : decide (y < 0) = false := decide_eq_false h0
        gi_wp2
        refine region_quiet_round (by kernel_rfl) (by kernel_rfl) (by kernel_rfl) ?_
        repeat (go_big_quiet_step (fail))
        refine wpQuiet_nil ?_
        rintro _ ⟨nq, rfl⟩
        obtain ⟨c0, c1, c2, f0, f1, f2⟩ := blkG3 (HF.out _ (below_draws HX5.out nq)).2.1
        have c3 := (HF.out _ (below_draws HX5.out nq)).2.2.1.cell
        have f3 := (HF.out _ (below_draws HX5.out nq)).2.2.1.frozen
        gi_wp2
        obtain ⟨q1, q2, q3, q4⟩ := FIN.out nq
        exact ⟨(keepsF (below_draws (Below.refl _ X) nq) _).trans (q4 _), ⟨rfl, HE.out, q1, q2⟩, q3 w.heap.size W5 (Nat.le_succ _) (below_draws (HBX.out.mono (by omega)) nq)⟩
    · have h01 := in3_parts.1 hin
      have h0 : ¬ y < 0 := by omega
      have h1 : ¬ mx < y := by omega
      have HIN := Lib.hid hin
      have hd0 : decide (y < 0) = false := decide_eq_false h0
      have hd1 : decide (mx < y) = false := decide_eq_false h1
      clear hin h01
      gi_wp2
      refine region_quiet_round (by kernel_rfl) (by kernel_rfl) (by kernel_rfl) ?_
      repeat (go_big_quiet_step (fail))
      refine wpQuiet_nil ?_
      rintro _ ⟨nq, rfl⟩
      gi_wp2
      refine ⟨keepsF (below_draws (Below.refl _ X) nq) _, rfl, ?_, below_draws HBX.out nq⟩
      rintro ⟨xa, xb⟩ hx
      rcases List.mem_append.1 hx with h | h
      · exact HPP.out (xa, xb) h
      · have h9 := List.mem_singleton.1 h
        injection h9 with h8 h9
        subst h8 h9
        show in3 ((t.getD i []).getD j 0) 0 mx = true; rw [HY.out]; exact HIN.out
  case done =>
    rintro D ys X hD rfl ⟨hp, hbX⟩ hK
    have hz2 := HZ2.out
    have HE := Lib.hid (show g = true by
      rw [← HG.out]
      refine num_cells HRR.out fun x => ?_
      have := HQ.out; have := HD.out
      subst q d
      exact hp x (plc_mem x))
    have hx5 := HB5.out.trans (hbX.mono HB5.out.size)
    obtain ⟨c0, c1, c2, f0, f1, f2⟩ := blkG3 (HF.out _ hx5).2.1
    have c3 := (HF.out _ hx5).2.2.1.cell
    have f3 := (HF.out _ hx5).2.2.1.frozen
    obtain ⟨d0, d1, d2, _, _, _⟩ := blkG3 (HK4.out X hbX)
    obtain ⟨q1, q2, q3, q4⟩ := fin4b (HF.out _ hx5).2.1 (HF.out _ hx5).2.2.1 (.int .i64 q) (.int .i64 d) (.slice (some ⟨b, o, none⟩) q c) (.bool true)
    have hK' := (q4 0).same D _ (Nat.zero_le _) hK rfl
    have hb := q3 w.heap.size W5 (Nat.le_succ _) (hbX.mono (show w.heap.size ≤ W5.heap.size by omega))
    have HK := Lib.hid hK'
    have HBF := Lib.hid hb
    obtain ⟨p0, p1, p2, _, _, _⟩ := blkG3 q1
    have hput := fun v (p : Addr) h => cell_kept (a := p) (v := v) h (grownBy_putObj' _ D (.deferred none)) (fun r e => by cases e; exact ⟨_, hK', rfl⟩)
    have e0 := Lib.hid (hput _ _ p0); have e1 := Lib.hid (hput _ _ p1); have e2 := Lib.hid (hput _ _ p2); have e3 := Lib.hid (hput _ _ q2.cell)
    clear hp hbX hx5 q1 q2 q3 q4 hK' hb p0 p1 p2 hput hK
    gi_wp2
    refine ⟨by simp, .inl ⟨_, _, rfl, run_takeDeferred HK.out, ?_⟩⟩
    have e0 := e0.out; have e1 := e1.out; have e2 := e2.out; have e3 := e3.out
    refine ⟨.tuple #[grV q d (.slice (some ⟨b, o, none⟩) q c), .bool true], by simp [results, Tryd.results78, go_sem, *], by rw [HVV.out, HE.out, gridV_yes, ← HQ.out, ← HD.out], ?_⟩
    exact HB2.out.trans ((HB5.out.mono HB2.out.size).trans (Below.mono (HBF.out.trans (belowK_b (w := w) (Nat.le_refl _) _ D _ _ (by omega) HK.out rfl rfl)) hWw))
  case stop =>
    rintro D c' pre X hD hpre ⟨⟨rfl, hg, hb4, hb5⟩, hB⟩ hK
    have hz2 := HZ2.out
    have HE := Lib.hid hg
    obtain ⟨p0, p1, p2, _, _, _⟩ := blkG3 hb4
    have hput := fun v (p : Addr) h => cell_kept (a := p) (v := v) h (grownBy_putObj' X D (.deferred none)) (fun r e => by cases e; exact ⟨_, hK, rfl⟩)
    have e0 := Lib.hid (hput _ _ p0); have e1 := Lib.hid (hput _ _ p1); have e2 := Lib.hid (hput _ _ p2); have e3 := Lib.hid (hput _ _ hb5.cell)
    have HK := Lib.hid hK
    have HBF := Lib.hid hB
    clear hput p0 p1 p2 hb4 hb5 hpre hB hK hg
    gi_wp2
    refine ⟨by simp, .inl ⟨_, _, rfl, run_takeDeferred HK.out, ?_⟩⟩
    have e0 := e0.out; have e1 := e1.out; have e2 := e2.out; have e3 := e3.out
    refine ⟨.tuple #[grV 0 0 (.slice none 0 0), .bool false], by simp [results, Tryd.results78, go_sem, *], by rw [HVV.out, HE.out, gridV_no], ?_⟩
    exact HB2.out.trans ((HB5.out.mono HB2.out.size).trans (Below.mono (HBF.out.trans (belowK_b (w := w) (Nat.le_refl _) _ D _ _ (by omega) HK.out rfl rfl)) hWw))
theorem iTGrid_is (W : World) (t : Tb) (v : Value) (hv : IsR W v t) (g : Bool) (hg : tabOk t = g) (w : World) (hb : Below W.heap.size W w) :
    Calls Tryd.prog 52 #[v] w (Back (.tuple #[gridV t v g, .bool g]) W) := by
  obtain ⟨W2, hW⟩ : ∃ W2, W2 = w.alloc (.cells #[.int .i64 0, .int .i64 0, .slice none 0 0] TGI) := ⟨_, rfl⟩
  have b2 : Below W.heap.size W W2 := by rw [hW]; exact hb.alloc hb.size _
  have HK := Lib.hid (show ∀ X, Below W2.heap.size W2 X → X.heap[w.heap.size]? = some (.cells #[.int .i64 0, .int .i64 0, .slice none 0 0] TGI (0, 0)) from fun X h => (h.block _ (by rw [hW]; simp)).trans (by rw [hW]; exact heap_alloc_new _ _))
  have HB := Lib.hid hb
  have HB2 := Lib.hid b2
  have HW := Lib.hid hW.symm
  have HN := Lib.hid ((tab_num t).trans hg)
  have HV := Lib.hid (hv.below b2)
  have hWw := hb.size
  obtain ⟨A, c, rfl, a1, a2, _⟩ := hv
  clear hb b2 hW hg a1 a2
  go_enter Tryd.func52, Tryd.ntmps52
  go_wp2_with fail
  rw [HW.out]
  refine (iNum_is W2 t _ HV.out 99 g HN.out W2 (Below.refl _ _)).mono ?_
  rintro e w1 ⟨rfl, b1⟩
  obtain ⟨c0, c1, c2, f0, f1, f2⟩ := blkG3 (HK.out _ b1)
  have HB1 := Lib.hid b1
  clear b1
  cases g
  · rw [gridV_no]
    go_wp2
    refine bodyPost_ret (v := .tuple #[grV 0 0 (.slice none 0 0), .bool false]) (by simp [results, Tryd.results52, go_sem, *]) rfl ?_
    refine ⟨rfl, ?_⟩
    exact (((HB2.out.trans (HB1.out.mono HB2.out.size)).setCell (p := ⟨w.heap.size, 0, none⟩) hWw _).setCell (p := ⟨w.heap.size, 1, none⟩) hWw _).setCell (p := ⟨w.heap.size, 2, none⟩) hWw _
  · rw [gridV_yes]
    go_wp2
    refine bodyPost_ret (v := .tuple #[grV t.length (wd t) (.slice A t.length c), .bool true]) (by simp [results, Tryd.results52, go_sem, *]) rfl ?_
    refine ⟨rfl, ?_⟩
    exact (((HB2.out.trans (HB1.out.mono HB2.out.size)).setCell (p := ⟨w.heap.size, 0, none⟩) hWw _).setCell (p := ⟨w.heap.size, 1, none⟩) hWw _).setCell (p := ⟨w.heap.size, 2, none⟩) hWw _
end Go.Proofs.YtobgceebolmfcaaDoor
