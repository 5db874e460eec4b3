/- Contracts of the program: rows with their size. -/
import Derived.Test.YtobgceebolmfcaaDoorIM1
import Derived.Test.YtobgceebolmfcaaDoorMW
import Derived.Test.YtobgceebolmfcaaDoorTM2
namespace Go.Proofs.YtobgceebolmfcaaDoor
open Go.RowKit Go.Shelf
theorem blkG3 {w : World} {g : Nat} {t : TypeId} {a b c : Value} (h : w.heap[g]? = some (.cells #[a, b, c] t (0, 0))) :
    w.cell? ⟨g, 0, none⟩ = some a ∧ w.cell? ⟨g, 1, none⟩ = some b ∧ w.cell? ⟨g, 2, none⟩ = some c ∧ w.frozen? ⟨g, 0, none⟩ = false ∧ w.frozen? ⟨g, 1, none⟩ = false ∧ w.frozen? ⟨g, 2, none⟩ = false := by
  refine ⟨?_, ?_, ?_, ?_, ?_, ?_⟩ <;> simp [World.cell?, World.frozen?, h]
theorem blk2 {w : World} {g : Nat} {t : TypeId} {a b : Value} (h : w.heap[g]? = some (.cells #[a, b] t (0, 0))) :
    w.cell? ⟨g, 0, none⟩ = some a ∧ w.cell? ⟨g, 1, none⟩ = some b ∧ w.frozen? ⟨g, 0, none⟩ = false ∧ w.frozen? ⟨g, 1, none⟩ = false := by
  refine ⟨?_, ?_, ?_, ?_⟩ <;> simp [World.cell?, World.frozen?, h]
abbrev grV (q d : Int) (v : Value) : Value := .agg #[.int .i64 q, .int .i64 d, v]
/-- A block that a call's world holds, in a later world. -/
theorem keepI1 {w : World} {o o' : Obj} : ((w.alloc o).alloc o').heap[w.heap.size]? = some o := by
  have h := heap_alloc_new w o
  exact ((Below.refl (w.alloc o).heap.size (w.alloc o)).alloc (Nat.le_refl _) o' |>.block w.heap.size (by simp)).trans h
theorem newI1 {w : World} {o o' : Obj} : ((w.alloc o).alloc o').heap[w.heap.size + 1]? = some o' := by
  have h := heap_alloc_new (w.alloc o) o'
  rw [World.size_alloc] at h; exact h
def rect (t : Tb) : Bool := in3 t.length 1 4 && in3 (wd t) 1 4 && t.all fun r => decide (r.length = wd t)
theorem rect_row {t : Tb} (h : rect t = true) {i : Nat} (hi : i < t.length) : (t.getD i []).length = wd t := by
  simp only [rect, Bool.and_eq_true, List.all_eq_true, decide_eq_true_eq] at h
  rw [getD_of _ _ hi]; exact h.2 _ (List.getElem_mem hi)
theorem rect_bad {t : Tb} {i : Nat} (hi : i < t.length) (h : ¬ (t.getD i []).length = wd t) : rect t = false := by
  cases hk : rect t
  · rfl
  · exact absurd (rect_row hk hi) h
theorem rect_all {t : Tb} (h1 : (in3 t.length 1 4 && in3 (wd t) 1 4) = true) (h : ∀ i, i < t.length → (t.getD i []).length = wd t) : rect t = true := by
  simp only [rect, h1, Bool.true_and, List.all_eq_true, decide_eq_true_eq]
  intro r hr
  obtain ⟨i, hi, rfl⟩ := List.getElem_of_mem hr
  have := h i hi
  rwa [getD_of _ _ hi] at this
theorem rect_no {t : Tb} (h1 : (in3 t.length 1 4 && in3 (wd t) 1 4) = false) : rect t = false := by rw [rect, h1]; rfl
def gridV (t : Tb) (v : Value) (g : Bool) : Value := if g = true then grV t.length (wd t) v else grV 0 0 (.slice none 0 0)
set_option maxHeartbeats 4000000 in
theorem iGrid_is (W : World) (t : Tb) (v : Value) (hv : IsR W v t) (g : Bool) (hg : rect t = g) (w : World) (hb : Below W.heap.size W w) :
    Calls Tryd.prog 91 #[v] w (Back (.tuple #[gridV t v g, .bool g]) W) := by
  obtain ⟨A, c, rfl, a1, a2, a3⟩ := hv
  obtain ⟨q, hq⟩ : ∃ q, q = t.length := ⟨_, rfl⟩
  have HQ := Lib.hid hq
  have HR := Lib.hid a3
  have HG := Lib.hid hg
  have HB := Lib.hid hb
  have hqm : q ≤ maxLen := by omega
  have hzb := hb.size
  obtain ⟨d, hd⟩ : ∃ d, d = wd t := ⟨_, rfl⟩
  have HD := Lib.hid hd
  obtain ⟨V, hV⟩ : ∃ V, V = gridV t (.slice A t.length c) g := ⟨_, rfl⟩
  have HV := Lib.hid hV
  rw [← hV, ← hq]
  clear a1 a2 a3 hg hq hb hd hV
  obtain ⟨W3, hW3⟩ : ∃ W3, W3 = (w.alloc (.cells #[.int .i64 0, .int .i64 0, .slice none 0 0] 59)).alloc (.cells #[.int .i64 q, .int .i64 d] TG) := ⟨_, rfl⟩
  have b3 : Below w.heap.size w W3 := by rw [hW3]; exact ((Below.refl _ _).alloc (Nat.le_refl _) _).alloc (by simp) _
  have hz3 : W3.heap.size = w.heap.size + 1 + 1 := by rw [hW3]; simp
  have k0 : W3.heap[w.heap.size]? = some (.cells #[.int .i64 0, .int .i64 0, .slice none 0 0] 59 (0, 0)) := by rw [hW3]; exact keepI1
  have k1 : W3.heap[w.heap.size + 1]? = some (.cells #[.int .i64 q, .int .i64 d] TG (0, 0)) := by rw [hW3]; exact newI1
  have HK := Lib.hid (show ∀ X, Below W3.heap.size W3 X → X.heap[w.heap.size]? = some (.cells #[.int .i64 0, .int .i64 0, .slice none 0 0] 59 (0, 0)) ∧ X.heap[w.heap.size + 1]? = some (.cells #[.int .i64 q, .int .i64 d] TG (0, 0)) ∧ Below W.heap.size W X ∧ Below w.heap.size w X from
    fun X h => ⟨(h.block _ (by omega)).trans k0, (h.block _ (by omega)).trans k1, HB.out.trans ((b3.trans (h.mono b3.size)).mono hzb), b3.trans (h.mono b3.size)⟩)
  have HZ3 := Lib.hid hz3
  clear b3 k0 k1 hz3
  have HNO := Lib.hid (show g = false → V = grV 0 0 (.slice none 0 0) from fun h => by rw [HV.out, gridV, if_neg (by rw [h]; decide)])
  by_cases h0 : q = 0
  · have hd0 : d = 0 := by rw [HD.out, wd_zero, List.getD_eq_getElem?_getD, List.getElem?_eq_none (by rw [← HQ.out]; omega)]; rfl
    have HE := Lib.hid (show g = false by rw [← HG.out]; exact rect_no (by rw [← HQ.out, h0]; rfl))
    have hq0 : ¬ 0 < (q : Int) := by omega
    have HV0 := Lib.hid (show (in3 (q : Int) 1 4 && in3 0 1 4) = false by rw [h0]; rfl)
    have HW := Lib.hid (show (w.alloc (.cells #[.int .i64 0, .int .i64 0, .slice none 0 0] 59)).alloc (.cells #[.int .i64 q, .int .i64 0] TG) = W3 by rw [hW3, hd0]; rfl)
    clear h0 hd0 hW3
    go_enter Tryd.func91, Tryd.ntmps91
    go_wp2_with fail
    rw [HW.out]
    refine (iSzValid_any q 0 W3).mono ?_
    rintro e X ⟨rfl, hx⟩
    rw [HV0.out]
    obtain ⟨c0, c1, c2, f0, f1, f2⟩ := blkG3 (HK.out _ hx).1
    go_wp2
    refine bodyPost_ret (v := .tuple #[grV 0 0 (.slice none 0 0), .bool false]) (by simp [results, Tryd.results91, go_sem, *]) rfl ?_
    refine ⟨by rw [HNO.out HE.out, HE.out], ?_⟩
    exact (((HK.out _ hx).2.2.1.setCell (p := ⟨w.heap.size, 0, none⟩) hzb _).setCell (p := ⟨w.heap.size, 1, none⟩) hzb _).setCell (p := ⟨w.heap.size, 2, none⟩) hzb _
  have h0i : ¬ (q : Int) ≤ 0 := by omega
  obtain ⟨b, o, A0, c0, rfl, hbW, hc, hl0, hm0, hr0⟩ := HR.out.at_ 0 (by rw [← HQ.out]; omega)
  rw [← wd_zero, ← HD.out] at hc hl0
  rw [Nat.add_zero] at hc
  obtain ⟨W2, hW2⟩ : ∃ W2, W2 = (w.alloc (.cells #[.int .i64 0, .int .i64 0, .slice none 0 0] 59)).alloc (.cells #[.int .i64 q, .int .i64 0] TG) := ⟨_, rfl⟩
  have b2 : Below w.heap.size w W2 := by rw [hW2]; exact ((Below.refl _ _).alloc (Nat.le_refl _) _).alloc (by simp) _
  have e0 := ((HB.out.trans (b2.mono hzb)).cell (p := ⟨b, o, none⟩) hbW).trans hc
  rw [hW2] at e0
  have HW := Lib.hid hW3.symm
  obtain ⟨vv, hvv⟩ : ∃ vv, (in3 (q : Int) 1 4 && in3 (d : Int) 1 4) = vv := ⟨_, rfl⟩
  have HVV := Lib.hid hvv
  clear b2 hW2 hc hl0 hm0 hr0 hW3 hvv
  go_enter Tryd.func91, Tryd.ntmps91
  go_wp2_with fail
  rw [HW.out]
  clear e0
  refine (iSzValid_any q d W3).mono ?_
  rintro e X ⟨rfl, hx⟩
  rw [HVV.out]
  cases vv
  · have HE := Lib.hid (show g = false by rw [← HG.out]; exact rect_no (by rw [← HQ.out, ← HD.out]; exact HVV.out))
    obtain ⟨c0, c1, c2, f0, f1, f2⟩ := blkG3 (HK.out _ hx).1
    go_wp2
    refine bodyPost_ret (v := .tuple #[grV 0 0 (.slice none 0 0), .bool false]) (by simp [results, Tryd.results91, go_sem, *]) rfl ?_
    refine ⟨by rw [HNO.out HE.out, HE.out], ?_⟩
    exact (((HK.out _ hx).2.2.1.setCell (p := ⟨w.heap.size, 0, none⟩) hzb _).setCell (p := ⟨w.heap.size, 1, none⟩) hzb _).setCell (p := ⟨w.heap.size, 2, none⟩) hzb _
  have hq4 : 1 ≤ q ∧ q ≤ 4 := by have := HVV.out; simp only [Bool.and_eq_true] at this; have := in3_parts.1 this.1; omega
  have hd4 : 1 ≤ d ∧ d ≤ 4 := by have := HVV.out; simp only [Bool.and_eq_true] at this; have := in3_parts.1 this.2; omega
  have HX := Lib.hid hx
  clear hx
  go_wp2
  go_loopw [24] (fun i wr => ∃ k : Nat, k ≤ q ∧ i = .int .i64 k ∧ (∀ j, j < k → (t.getD j []).length = d) ∧ wr = X) (fun i _ => q - (intOf i).toNat)
  case atStart => exact ⟨0, Nat.zero_le _, rfl, fun j hj => absurd hj (by omega), rfl⟩
  case round =>
    obtain ⟨k, hk, rfl, hall, rfl⟩ := hrel
    have HA := Lib.hid hall
    clear hall
    have hx := HX.out
    by_cases hlt : k < q
    · have hki : (k : Int) < (q : Int) := by omega
      have hkt : k < t.length := by rw [← HQ.out]; exact hlt
      obtain ⟨b', o', A1, c1, hA, hb1, hc1, _, _, _⟩ := HR.out.at_ k hkt
      injection hA with hA
      injection hA with g1 g2 _
      subst g1 g2
      have e1 := ((HK.out _ hx).2.2.1.cell (p := ⟨b, o + k, none⟩) hb1).trans hc1
      obtain ⟨n, hn⟩ : ∃ n, n = (t.getD k []).length := ⟨_, rfl⟩
      rw [← hn] at e1
      obtain ⟨_, d1, _, _⟩ := blk2 (HK.out _ hx).2.1
      by_cases hnd : n = d
      · have hbq : ((n : Int) == (d : Int)) = true := by rw [beq_iff_eq]; omega
        have HS := Lib.hid (show ∀ j, j < k + 1 → (t.getD j []).length = d from fun j hj => by
          rcases Nat.lt_or_ge j k with h | h
          · exact HA.out j h
          · rw [show j = k by omega, ← hn, hnd])
        have hne : ¬ (n : Int) ≠ (d : Int) := by omega
        clear hc1 hn hkt hx
        go_wp2
        go_roundw
        case rel => exact ⟨k + 1, by omega, by go_num, HS.out, trivial⟩
        case measure => simp [intOf]; omega
      · have hbq : ((n : Int) == (d : Int)) = false := by rw [beq_eq_false_iff_ne]; omega
        have HE := Lib.hid (show g = false by rw [← HG.out]; exact rect_bad hkt (by rw [← hn, ← HD.out]; exact hnd))
        clear hc1 hn hkt
        obtain ⟨c0, c1, c2, f0, f1, f2⟩ := blkG3 (HK.out _ hx).1
        go_wp2
        refine bodyPost_ret (v := .tuple #[grV 0 0 (.slice none 0 0), .bool false]) (by simp [results, Tryd.results91, go_sem, *]) rfl ?_
        refine ⟨by rw [HNO.out HE.out, HE.out], ?_⟩
        exact (((HK.out _ hx).2.2.1.setCell (p := ⟨w.heap.size, 0, none⟩) hzb _).setCell (p := ⟨w.heap.size, 1, none⟩) hzb _).setCell (p := ⟨w.heap.size, 2, none⟩) hzb _
    · have hki : ¬ (k : Int) < (q : Int) := by omega
      have HE := Lib.hid (show g = true by
        rw [← HG.out]
        exact rect_all (by rw [← HQ.out, ← HD.out]; exact HVV.out) fun i hi => by rw [← HD.out]; exact HA.out i (by rw [← HQ.out] at hi; omega))
      have HVE := Lib.hid (show V = grV q d (.slice (some ⟨b, o, none⟩) q c) by rw [HV.out, gridV, if_pos HE.out, ← HQ.out, ← HD.out])
      obtain ⟨c0, c1, c2, f0, f1, f2⟩ := blkG3 (HK.out _ hx).1
      obtain ⟨d0, d1, _, _⟩ := blk2 (HK.out _ hx).2.1
      go_wp2
      refine bodyPost_ret (v := .tuple #[grV q d (.slice (some ⟨b, o, none⟩) q c), .bool true]) (by simp [results, Tryd.results91, go_sem, *]) rfl ?_
      refine ⟨by rw [HVE.out, HE.out], ?_⟩
      exact (((HK.out _ hx).2.2.1.setCell (p := ⟨w.heap.size, 0, none⟩) hzb _).setCell (p := ⟨w.heap.size, 1, none⟩) hzb _).setCell (p := ⟨w.heap.size, 2, none⟩) hzb _
def wdM (t : Mk) : Nat := (t.headD []).length
theorem wd_zeroM (t : Mk) : wdM t = (t.getD 0 []).length := by cases t <;> rfl
def rectM (t : Mk) : Bool := in3 t.length 1 4 && in3 (wdM t) 1 4 && t.all fun r => decide (r.length = wdM t)
theorem rect_rowM {t : Mk} (h : rectM t = true) {i : Nat} (hi : i < t.length) : (t.getD i []).length = wdM t := by
  simp only [rectM, Bool.and_eq_true, List.all_eq_true, decide_eq_true_eq] at h
  rw [getD_of _ _ hi]; exact h.2 _ (List.getElem_mem hi)
theorem rect_badM {t : Mk} {i : Nat} (hi : i < t.length) (h : ¬ (t.getD i []).length = wdM t) : rectM t = false := by
  cases hk : rectM t
  · rfl
  · exact absurd (rect_rowM hk hi) h
theorem rect_allM {t : Mk} (h1 : (in3 t.length 1 4 && in3 (wdM t) 1 4) = true) (h : ∀ i, i < t.length → (t.getD i []).length = wdM t) : rectM t = true := by
  simp only [rectM, h1, Bool.true_and, List.all_eq_true, decide_eq_true_eq]
  intro r hr
  obtain ⟨i, hi, rfl⟩ := List.getElem_of_mem hr
  have := h i hi
  rwa [getD_of _ _ hi] at this
theorem rect_noM {t : Mk} (h1 : (in3 t.length 1 4 && in3 (wdM t) 1 4) = false) : rectM t = false := by rw [rectM, h1]; rfl
def gridVM (t : Mk) (v : Value) (g : Bool) : Value := if g = true then grV t.length (wdM t) v else grV 0 0 (.slice none 0 0)
set_option maxHeartbeats 4000000 in
theorem iGridM_is (W : World) (t : Mk) (v : Value) (hv : IsM W v t) (g : Bool) (hg : rectM t = g) (w : World) (hb : Below W.heap.size W w) :
    Calls Tryd.prog 53 #[v] w (Back (.tuple #[gridVM t v g, .bool g]) W) := by
  obtain ⟨A, c, rfl, a1, a2, a3⟩ := hv
  obtain ⟨q, hq⟩ : ∃ q, q = t.length := ⟨_, rfl⟩
  have HQ := Lib.hid hq
  have HR := Lib.hid a3
  have HG := Lib.hid hg
  have HB := Lib.hid hb
  have hqm : q ≤ maxLen := by omega
  have hzb := hb.size
  obtain ⟨d, hd⟩ : ∃ d, d = wdM t := ⟨_, rfl⟩
  have HD := Lib.hid hd
  obtain ⟨V, hV⟩ : ∃ V, V = gridVM t (.slice A t.length c) g := ⟨_, rfl⟩
  have HV := Lib.hid hV
  rw [← hV, ← hq]
  clear a1 a2 a3 hg hq hb hd hV
  obtain ⟨W3, hW3⟩ : ∃ W3, W3 = (w.alloc (.cells #[.int .i64 0, .int .i64 0, .slice none 0 0] 79)).alloc (.cells #[.int .i64 q, .int .i64 d] TG) := ⟨_, rfl⟩
  have b3 : Below w.heap.size w W3 := by rw [hW3]; exact ((Below.refl _ _).alloc (Nat.le_refl _) _).alloc (by simp) _
  have hz3 : W3.heap.size = w.heap.size + 1 + 1 := by rw [hW3]; simp
  have k0 : W3.heap[w.heap.size]? = some (.cells #[.int .i64 0, .int .i64 0, .slice none 0 0] 79 (0, 0)) := by rw [hW3]; exact keepI1
  have k1 : W3.heap[w.heap.size + 1]? = some (.cells #[.int .i64 q, .int .i64 d] TG (0, 0)) := by rw [hW3]; exact newI1
  have HK := Lib.hid (show ∀ X, Below W3.heap.size W3 X → X.heap[w.heap.size]? = some (.cells #[.int .i64 0, .int .i64 0, .slice none 0 0] 79 (0, 0)) ∧ X.heap[w.heap.size + 1]? = some (.cells #[.int .i64 q, .int .i64 d] TG (0, 0)) ∧ Below W.heap.size W X ∧ Below w.heap.size w X from
    fun X h => ⟨(h.block _ (by omega)).trans k0, (h.block _ (by omega)).trans k1, HB.out.trans ((b3.trans (h.mono b3.size)).mono hzb), b3.trans (h.mono b3.size)⟩)
  have HZ3 := Lib.hid hz3
  clear b3 k0 k1 hz3
  have HNO := Lib.hid (show g = false → V = grV 0 0 (.slice none 0 0) from fun h => by rw [HV.out, gridVM, if_neg (by rw [h]; decide)])
  by_cases h0 : q = 0
  · have hd0 : d = 0 := by rw [HD.out, wd_zeroM, List.getD_eq_getElem?_getD, List.getElem?_eq_none (by rw [← HQ.out]; omega)]; rfl
    have HE := Lib.hid (show g = false by rw [← HG.out]; exact rect_noM (by rw [← HQ.out, h0]; rfl))
    have hq0 : ¬ 0 < (q : Int) := by omega
    have HV0 := Lib.hid (show (in3 (q : Int) 1 4 && in3 0 1 4) = false by rw [h0]; rfl)
    have HW := Lib.hid (show (w.alloc (.cells #[.int .i64 0, .int .i64 0, .slice none 0 0] 79)).alloc (.cells #[.int .i64 q, .int .i64 0] TG) = W3 by rw [hW3, hd0]; rfl)
    clear h0 hd0 hW3
    go_enter Tryd.func53, Tryd.ntmps53
    go_wp2_with fail
    rw [HW.out]
    refine (iSzValid_any q 0 W3).mono ?_
    rintro e X ⟨rfl, hx⟩
    rw [HV0.out]
    obtain ⟨c0, c1, c2, f0, f1, f2⟩ := blkG3 (HK.out _ hx).1
    go_wp2
    refine bodyPost_ret (v := .tuple #[grV 0 0 (.slice none 0 0), .bool false]) (by simp [results, Tryd.results53, go_sem, *]) rfl ?_
    refine ⟨by rw [HNO.out HE.out, HE.out], ?_⟩
    exact (((HK.out _ hx).2.2.1.setCell (p := ⟨w.heap.size, 0, none⟩) hzb _).setCell (p := ⟨w.heap.size, 1, none⟩) hzb _).setCell (p := ⟨w.heap.size, 2, none⟩) hzb _
  have h0i : ¬ (q : Int) ≤ 0 := by omega
  obtain ⟨b, o, A0, c0, rfl, hbW, hc, hl0, hm0, hr0⟩ := HR.out.at_ 0 (by rw [← HQ.out]; omega)
  rw [← wd_zeroM, ← HD.out] at hc hl0
  rw [Nat.add_zero] at hc
  obtain ⟨W2, hW2⟩ : ∃ W2, W2 = (w.alloc (.cells #[.int .i64 0, .int .i64 0, .slice none 0 0] 79)).alloc (.cells #[.int .i64 q, .int .i64 0] TG) := ⟨_, rfl⟩
  have b2 : Below w.heap.size w W2 := by rw [hW2]; exact ((Below.refl _ _).alloc (Nat.le_refl _) _).alloc (by simp) _
  have e0 := ((HB.out.trans (b2.mono hzb)).cell (p := ⟨b, o, none⟩) hbW).trans hc
  rw [hW2] at e0
  have HW := Lib.hid hW3.symm
  obtain ⟨vv, hvv⟩ : ∃ vv, (in3 (q : Int) 1 4 && in3 (d : Int) 1 4) = vv := ⟨_, rfl⟩
  have HVV := Lib.hid hvv
  clear b2 hW2 hc hl0 hm0 hr0 hW3 hvv
  go_enter Tryd.func53, Tryd.ntmps53
  go_wp2_with fail
  rw [HW.out]
  clear e0
  refine (iSzValid_any q d W3).mono ?_
  rintro e X ⟨rfl, hx⟩
  rw [HVV.out]
  cases vv
  · have HE := Lib.hid (show g = false by rw [← HG.out]; exact rect_noM (by rw [← HQ.out, ← HD.out]; exact HVV.out))
    obtain ⟨c0, c1, c2, f0, f1, f2⟩ := blkG3 (HK.out _ hx).1
    go_wp2
    refine bodyPost_ret (v := .tuple #[grV 0 0 (.slice none 0 0), .bool false]) (by simp [results, Tryd.results53, go_sem, *]) rfl ?_
    refine ⟨by rw [HNO.out HE.out, HE.out], ?_⟩
    exact (((HK.out _ hx).2.2.1.setCell (p := ⟨w.heap.size, 0, none⟩) hzb _).setCell (p := ⟨w.heap.size, 1, none⟩) hzb _).setCell (p := ⟨w.heap.size, 2, none⟩) hzb _
  have hq4 : 1 ≤ q ∧ q ≤ 4 := by have := HVV.out; simp only [Bool.and_eq_true] at this; have := in3_parts.1 this.1; omega
  have hd4 : 1 ≤ d ∧ d ≤ 4 := by have := HVV.out; simp only [Bool.and_eq_true] at this; have := in3_parts.1 this.2; omega
  have HX := Lib.hid hx
  clear hx
  go_wp2
  go_loopw [24] (fun i wr => ∃ k : Nat, k ≤ q ∧ i = .int .i64 k ∧ (∀ j, j < k → (t.getD j []).length = d) ∧ wr = X) (fun i _ => q - (intOf i).toNat)
  case atStart => exact ⟨0, Nat.zero_le _, rfl, fun j hj => absurd hj (by omega), rfl⟩
  case round =>
    obtain ⟨k, hk, rfl, hall, rfl⟩ := hrel
    have HA := Lib.hid hall
    clear hall
    have hx := HX.out
    by_cases hlt : k < q
    · have hki : (k : Int) < (q : Int) := by omega
      have hkt : k < t.length := by rw [← HQ.out]; exact hlt
      obtain ⟨b', o', A1, c1, hA, hb1, hc1, _, _, _⟩ := HR.out.at_ k hkt
      injection hA with hA
      injection hA with g1 g2 _
      subst g1 g2
      have e1 := ((HK.out _ hx).2.2.1.cell (p := ⟨b, o + k, none⟩) hb1).trans hc1
      obtain ⟨n, hn⟩ : ∃ n, n = (t.getD k []).length := ⟨_, rfl⟩
      rw [← hn] at e1
      obtain ⟨_, d1, _, _⟩ := blk2 (HK.out _ hx).2.1
      by_cases hnd : n = d
      · have hbq : ((n : Int) == (d : Int)) = true := by rw [beq_iff_eq]; omega
        have HS := Lib.hid (show ∀ j, j < k + 1 → (t.getD j []).length = d from fun j hj => by
          rcases Nat.lt_or_ge j k with h | h
          · exact HA.out j h
          · rw [show j = k by omega, ← hn, hnd])
        have hne : ¬ (n : Int) ≠ (d : Int) := by omega
        clear hc1 hn hkt hx
        go_wp2
        go_roundw
        case rel => exact ⟨k + 1, by omega, by go_num, HS.out, trivial⟩
        case measure => simp [intOf]; omega
      · have hbq : ((n : Int) == (d : Int)) = false := by rw [beq_eq_false_iff_ne]; omega
        have HE := Lib.hid (show g = false by rw [← HG.out]; exact rect_badM hkt (by rw [← hn, ← HD.out]; exact hnd))
        clear hc1 hn hkt
        obtain ⟨c0, c1, c2, f0, f1, f2⟩ := blkG3 (HK.out _ hx).1
        go_wp2
        refine bodyPost_ret (v := .tuple #[grV 0 0 (.slice none 0 0), .bool false]) (by simp [results, Tryd.results53, go_sem, *]) rfl ?_
        refine ⟨by rw [HNO.out HE.out, HE.out], ?_⟩
        exact (((HK.out _ hx).2.2.1.setCell (p := ⟨w.heap.size, 0, none⟩) hzb _).setCell (p := ⟨w.heap.size, 1, none⟩) hzb _).setCell (p := ⟨w.heap.size, 2, none⟩) hzb _
    · have hki : ¬ (k : Int) < (q : Int) := by omega
      have HE := Lib.hid (show g = true by
        rw [← HG.out]
        exact rect_allM (by rw [← HQ.out, ← HD.out]; exact HVV.out) fun i hi => by rw [← HD.out]; exact HA.out i (by rw [← HQ.out] at hi; omega))
      have HVE := Lib.hid (show V = grV q d (.slice (some ⟨b, o, none⟩) q c) by rw [HV.out, gridVM, if_pos HE.out, ← HQ.out, ← HD.out])
      obtain ⟨c0, c1, c2, f0, f1, f2⟩ := blkG3 (HK.out _ hx).1
      obtain ⟨d0, d1, _, _⟩ := blk2 (HK.out _ hx).2.1
      go_wp2
      refine bodyPost_ret (v := .tuple #[grV q d (.slice (some ⟨b, o, none⟩) q c), .bool true]) (by simp [results, Tryd.results53, go_sem, *]) rfl ?_
      refine ⟨by rw [HVE.out, HE.out], ?_⟩
      exact (((HK.out _ hx).2.2.1.setCell (p := ⟨w.heap.size, 0, none⟩) hzb _).setCell (p := ⟨w.heap.size, 1, none⟩) hzb _).setCell (p := ⟨w.heap.size, 2, none⟩) hzb _
end Go.Proofs.YtobgceebolmfcaaDoor
