/- Contracts of the program: the sum of all cells. -/
import Derived.Test.YtpajbgkgleeifaaIM4
import Derived.Test.YtpajbgkgleeifaaRS
import Derived.Test.YtpajbgkgleeifaaTS5
namespace Go.Proofs.Ytpajbgkgleeifaa
open Go.RowKit Go.Shelf
attribute [local go_sem] Oper.semAt_some
def cellP (t : Tb) {q d : Nat} (x : Pc q d) : Int := (t.getD x.1.val []).getD x.2.val 0
theorem finRange_get {α : Type} (l : List α) (z : α) : (List.finRange l.length).map (fun a => l.getD a.val z) = l := by
  refine List.ext_getElem (by simp) fun i h1 h2 => ?_
  simp
theorem sum_flatMap {α : Type} (f : α → List Int) : ∀ l : List α, (l.flatMap f).sum = (l.map fun a => (f a).sum).sum
  | [] => rfl
  | a :: l => by simp [sum_flatMap f l]
theorem plc_sum {q d : Nat} (f : Pc q d → Int) : ((plc q d).map f).sum = ((List.finRange q).map fun a => ((List.finRange d).map fun b => f (a, b)).sum).sum := by
  unfold plc
  rw [List.map_flatMap, sum_flatMap]
  simp [List.map_map, Function.comp_def]
theorem tot_all {t : Tb} (h : ∀ i, i < t.length → (t.getD i []).length = wd t) : ((plc t.length (wd t)).map fun x => cellP t x).sum = tsum t := by
  rw [plc_sum, tsum, rsum]
  have e : (fun a : Fin t.length => ((List.finRange (wd t)).map fun b => cellP t (a, b)).sum) = fun a => (t.getD a.val []).sum := by
    funext a
    have h1 := finRange_get (t.getD a.val []) 0
    rw [h a.val a.isLt] at h1
    exact congrArg List.sum h1
  rw [e]
  have h2 := congrArg (List.map List.sum) (finRange_get t [])
  rw [List.map_map] at h2
  exact congrArg List.sum h2
theorem cellP_bd {t : Tb} (h : tabOk t = true) (x : Pc t.length (wd t)) : 0 ≤ cellP t x ∧ cellP t x ≤ 99 := by
  have hr := tab_row h x.1.isLt
  have hl := tab_lens h x.1.isLt
  simp only [rowOk, Bool.and_eq_true, List.all_eq_true] at hr
  have hj : x.2.val < (t.getD x.1.val []).length := by rw [hl]; exact x.2.isLt
  have := in3_parts.1 (hr.2 _ (List.getElem_mem hj))
  unfold cellP
  rw [getD_of _ _ hj]; exact this
theorem tot_bd {t : Tb} (h : tabOk t = true) : ∀ pre : List (Pc t.length (wd t)), 0 ≤ (pre.map fun x => cellP t x).sum ∧ (pre.map fun x => cellP t x).sum ≤ 99 * pre.length
  | [] => by simp
  | x :: pre => by
    have h1 := tot_bd h pre
    have h2 := cellP_bd h x
    simp only [List.map_cons, List.sum_cons, List.length_cons]
    omega
/-- Three blocks laid one behind the other. -/
theorem three_blk (w : World) (a b c : Array Value) (T T' T'' : TypeId) : ∃ W3, W3 = ((w.alloc (.cells a T)).alloc (.cells b T')).alloc (.cells c T'') ∧ Below w.heap.size w W3 ∧ W3.heap.size = w.heap.size + 1 + 1 + 1 ∧
    W3.heap[w.heap.size]? = some (.cells a T (0, 0)) ∧ W3.heap[w.heap.size + 1]? = some (.cells b T' (0, 0)) ∧ W3.heap[w.heap.size + 1 + 1]? = some (.cells c T'' (0, 0)) := by
  refine ⟨_, rfl, (((Below.refl _ _).alloc (Nat.le_refl _) _).alloc (by simp) _).alloc (by simp; omega) _, by simp, ?_, ?_, ?_⟩
  · exact (Below.heap_alloc _ _ _ (by simp; omega)).trans keepI1
  · exact (Below.heap_alloc _ _ _ (by simp)).trans newI1
  · have h := heap_alloc_new ((w.alloc (.cells a T)).alloc (.cells b T')) (.cells c T'')
    rw [World.size_alloc, World.size_alloc] at h; exact h
set_option maxRecDepth 100000 in
set_option maxHeartbeats 1000000 in
theorem iTotal_is (W : World) (t : Tb) (v : Value) (hv : IsR W v t) (g : Int) (hg : ttot t = g) (w : World) (hb : Below W.heap.size W w) :
    Calls Try.prog 26 #[v] w (Back (.int .i64 g) W) := by
  have HV := Lib.hid (hv.below hb)
  obtain ⟨q, hq⟩ : ∃ q, q = t.length := ⟨_, rfl⟩
  obtain ⟨d, hd⟩ : ∃ d, d = wd t := ⟨_, rfl⟩
  have HQ := Lib.hid hq
  have HD := Lib.hid hd
  have HB := Lib.hid hb
  have hWw := hb.size
  obtain ⟨A, c, rfl, a1, a2, _⟩ := hv
  rw [← hq] at HV ⊢
  have HR := Lib.hid HV.out.head.2.2.2
  have HG := Lib.hid hg
  obtain ⟨r, hrr⟩ : ∃ r, tabOk t = r := ⟨_, rfl⟩
  have HRR := Lib.hid hrr
  clear hg hrr hb a1 a2 hq hd
  refine (callsIn_wide (n := 6)).1 ?_
  refine callsIn_of_wp_marks Try.func26 rfl trivial ?_ rfl
  simp only [Try.ntmps26, List.size_toArray, List.length_cons, List.length_nil, Nat.reduceAdd, Nat.reduceSub, Array.replicate_succ, Array.replicate_zero, List.push_toArray, List.append_toArray, List.nil_append, List.cons_append]
  gi_wp2_with fail
  refine ⟨trivial, ?_⟩
  refine (callsIn_wide.2 (iTGrid_is w t _ HV.out r HRR.out _ (Below.refl _ _))).mono ?_
  rintro e w1 ⟨rfl, b1⟩
  have HB1 := Lib.hid b1
  have hz1 := b1.size
  cases r
  · rw [gridV_no]
    have HE := Lib.hid (show g = -1 by rw [← HG.out, ttot, if_neg (by rw [HRR.out]; decide)])
    gi_wp2
    exact ⟨_, results_tmp rfl _ _ _, by rw [HE.out]; rfl, HB.out.trans ((b1.alloc hz1 _).mono hWw)⟩
  have HE := Lib.hid (show g = tsum t by rw [← HG.out, ttot, if_pos HRR.out])
  have ht := tab_iff.1 HRR.out
  have hp : (1 ≤ q ∧ q ≤ 4) ∧ 1 ≤ d ∧ d ≤ 4 := by rw [HQ.out, HD.out]; exact ⟨⟨ht.h1, ht.h4⟩, ht.w1, ht.w4⟩
  obtain ⟨b, o, _, _, rfl, _, _, _, _, _⟩ := HR.out.at_ 0 (by rw [← HQ.out]; omega)
  rw [gridV_yes, ← HQ.out, ← HD.out]
  obtain ⟨W5, hW5, b5, hz5, k4, kt, k5⟩ := three_blk w1 #[.int .i64 q, .int .i64 d, .slice (some ⟨b, o, none⟩) q c] #[.int .i64 0] #[.int .i64 q, .int .i64 d] TGI TN TG
  have HW5 := Lib.hid hW5.symm
  have hlt5 : w1.heap.size + 1 + 1 < W5.heap.size := by omega
  have HB5 := Lib.hid b5
  clear ht hW5 hz5 b5
  gi_wp2_with fail
  refine ⟨trivial, ?_⟩
  refine (callsIn_wide.2 (iPlaces_any q d _)).mono ?_
  rintro e w3 ⟨rfl, rfl⟩
  gi_wp2
  rw [HW5.out]
  have HBW := Lib.hid (show ∀ X, Below w1.heap.size w1 X → Below w.heap.size w X from fun X h => HB1.out.trans (h.mono hz1))
  have HSB := Lib.hid (show ∀ pre : List (Pc q d), 0 ≤ (pre.map fun x => cellP t x).sum ∧ (pre.map fun x => cellP t x).sum ≤ 99 * pre.length by
    have := HQ.out; have := HD.out; subst q d; exact tot_bd HRR.out)
  have HCB := Lib.hid (show ∀ x : Pc q d, 0 ≤ cellP t x ∧ cellP t x ≤ 99 by
    have := HQ.out; have := HD.out; subst q d; exact cellP_bd HRR.out)
  have hN : (plc q d).length ≤ 16 := by rw [plc_len]; exact Nat.mul_le_mul hp.1.2 hp.2.2
  refine' wpIn_rangeFunc_ownG (α := Pc q d) rfl (by omega) (gf := 57) (lb := #[.pointer (some ⟨w1.heap.size + 1 + 1, 0, none⟩)]) rfl trivial (enters_of Try.func57 (by kernel_rfl) rfl)
    (places_stops 5 (by omega) (w1.heap.size + 1 + 1) q d (by omega) (by omega) W5 (by omega) k5) kB_t (kB_b hlt5) (Below.refl _ _) (fun _ => rfl)
    (fun pre X => (Boxed X (w1.heap.size + 1) TN (.int .i64 (pre.map fun x => cellP t x).sum) ∧ X.heap[w1.heap.size]? = some (.cells #[.int .i64 q, .int .i64 d, .slice (some ⟨b, o, none⟩) q c] TGI (0, 0))) ∧ Below w1.heap.size w1 X)
    (fun _ _ _ => False)
    (OwnFrom.and (fun s X Y row hs hg hr => ⟨boxed_own _ TN (fun (_ : Unit) => Value.int .i64 (s.map fun x => cellP t x).sum) () X Y row hs.1 hg (fun r e => (hr r e).2), (grownBy_keeps_cells hg (fun r e => (hr r e).2) hs.2 rfl).trans hs.2⟩) (ownFrom_below (Nat.le_refl _) (by omega)))
    (fun _ _ _ _ _ hs _ _ => hs)
    ⟨⟨kt, k4⟩, HB5.out⟩
    _ ?assign ?body ?done ?stop
  case assign =>
    intro l x X K hK
    gi_wp2
    exact hK
  case body =>
    rintro l pre ⟨⟨i, hi⟩, ⟨j, hj⟩⟩ X ⟨⟨hbx, hgr⟩, hbX⟩ hlen
    have hwX := HBW.out X hbX
    have hit : i < t.length := by rw [← HQ.out]; exact hi
    have hln : (t.getD i []).length = d := by rw [tab_lens HRR.out hit, HD.out]
    obtain ⟨b', o', b2, o2, c2, hA, hb1, hc1, _, hb3, hc2⟩ := HR.out.cell2 (i := i) (j := j) hit (by rw [hln]; exact hj)
    injection hA with hA
    injection hA with g1 g2 _
    subst g1 g2
    have e1 := (hwX.cell (p := ⟨b, o + i, none⟩) hb1).trans hc1
    have e2 := (hwX.cell (p := ⟨b2, o2 + j, none⟩) hb3).trans hc2
    rw [hln] at e1
    have HS := Lib.hid (HSB.out pre)
    have HC := Lib.hid (HCB.out (⟨i, hi⟩, ⟨j, hj⟩))
    obtain ⟨y, hy⟩ : ∃ y, (t.getD i []).getD j 0 = y := ⟨_, rfl⟩
    obtain ⟨s, hs⟩ : ∃ s, (pre.map fun x : Pc q d => cellP t x).sum = s := ⟨_, rfl⟩
    rw [hy] at e2
    rw [hs] at hbx HS
    have hcy : cellP t ((⟨i, hi⟩, ⟨j, hj⟩) : Pc q d) = y := hy
    rw [hcy] at HC
    have hwr : IntKind.i64.wrap (s + y) = s + y := by rw [IntKind.wrap_i64]; have := HS.out; have := HC.out; omega
    have HSY := Lib.hid (show ((pre ++ [((⟨i, hi⟩, ⟨j, hj⟩) : Pc q d)]).map fun x => cellP t x).sum = s + y by
      rw [List.map_append, List.sum_append, hs, List.map_cons, List.map_nil, hcy]; simp)
    obtain ⟨_, _, e0, _, _, _⟩ := blkG3 hgr
    have et := hbx.cell
    have HBX := Lib.hid hbX
    have HGR := Lib.hid hgr
    have HBOX := Lib.hid hbx
    have hii : (i : Int) < (q : Int) := by omega
    have hji : (j : Int) < (d : Int) := by omega
    clear hc1 hc2 hln hlen hy hbX hwX hcy hs hgr hbx hb1 hb3
    gi_wp2
    refine region_still_round 10 (by kernel_rfl) (by kernel_rfl) (by kernel_rfl) ?_
    simp only [List.take_succ_cons, List.take_zero, List.drop_succ_cons, List.drop_zero]
    repeat still_step
    try refine wpStill_nil ?_
    change wpList _ _ _ _ _ X.drew
    obtain ⟨Z, hZ⟩ : ∃ Z, Z = X.drew := ⟨_, rfl⟩
    have hbox : Boxed Z (w1.heap.size + 1) TN (.int .i64 s) := by rw [hZ]; exact HBOX.out
    have zt := hbox.cell
    have zf := hbox.frozen
    have HZB := Lib.hid (show Below w1.heap.size w1 Z by rw [hZ]; exact HBX.out.drew)
    have HZG := Lib.hid (show Z.heap[w1.heap.size]? = some (.cells #[.int .i64 q, .int .i64 d, .slice (some ⟨b, o, none⟩) q c] TGI (0, 0)) by rw [hZ]; exact HGR.out)
    have HZ2 := Lib.hid (show KB (w1.heap.size + 1 + 1) X Z ∧ KeepsOthers X Z from by rw [hZ]; exact ⟨rfl, KeepsOthers.drew X⟩)
    have HZX := Lib.hid hbox
    rw [← hZ]
    clear hZ et hbox
    go_wp2
    refine ⟨(HZ2.out.2.trans (KeepsOthers.setCell Z _ _)).from _, kB_t HZ2.out.1 (Below.heap_setCell Z ⟨w1.heap.size + 1, 0, none⟩ _ _ (by show w1.heap.size + 1 + 1 ≠ w1.heap.size + 1; omega)), ⟨?_, ?_⟩, HZB.out.setCell (p := ⟨w1.heap.size + 1, 0, none⟩) (by show w1.heap.size ≤ w1.heap.size + 1; omega) _⟩
    · rw [HSY.out]; exact HZX.out.set _
    · exact (Below.heap_setCell Z ⟨w1.heap.size + 1, 0, none⟩ _ _ (by show w1.heap.size ≠ w1.heap.size + 1; omega)).trans HZG.out
  case done =>
    rintro D ys X hD rfl ⟨⟨hbx, _⟩, hbX⟩ hK
    have hsum : ((plc q d).map fun x => cellP t x).sum = g := by
      rw [HE.out]
      have := HQ.out; have := HD.out; subst q d; exact tot_all fun i hi => tab_lens HRR.out hi
    rw [hsum] at hbx
    have et := hbx.cell
    have HK := Lib.hid hK
    have HBX := Lib.hid hbX
    clear hK hbX hsum hbx
    gi_wp2
    refine ⟨by simp, .inl ⟨_, _, rfl, run_takeDeferred HK.out, ?_⟩⟩
    exact ⟨_, results_tmp rfl _ _ _, rfl, HB.out.trans (Below.mono ((HBW.out X HBX.out).trans (belowK_b (w := w) (Nat.le_refl _) _ D _ _ (by omega) HK.out rfl rfl)) hWw)⟩
  case stop =>
    rintro D c pre X hD _ h _
    exact h.elim
end Go.Proofs.Ytpajbgkgleeifaa
