/- Contracts of the program: the sum of all cells. Contracts of the program: tables turned. Contracts of the program: small cells. -/
import Derived.Test.YtobgceebolmfcaaDoorIM4
import Derived.Test.YtobgceebolmfcaaDoorRS
import Derived.Test.YtobgceebolmfcaaDoorTS5
import Derived.Test.YtobgceebolmfcaaDoorIM6
import Derived.Test.YtobgceebolmfcaaDoorTS7
namespace Go.Proofs.YtobgceebolmfcaaDoor
open Go.RowKit Go.Shelf
attribute [local go_sem] Oper.semAt_some
def cellP (t : Tb) {q d : Nat} (x : Pc q d) : Int := (t.getD x.1.val []).getD x.2.val 0
theorem finRange_get {α : Type} (l : List α) (z : α) : (List.finRange l.length).map (fun a => l.getD a.val z) = l := by
  refine List.ext_getElem (by simp) fun i h1 h2 => ?_
  simp
theorem sum_flatMap {α : Type} (f : α → List Int) : ∀ l : List α, (l.flatMap f).sum = (l.map fun a => (f a).sum).sum
  | [] => rfl
  | a :: l => by simp [sum_flatMap f l]
theorem plc_sum {q d : Nat} (f : Pc q d → Int) : ((plc q d).map f).sum = ((List.finRange q).map fun a => ((List.finRange d).map fun b => f (a, b)).sum).sum := by
  unfold plc
  rw [List.map_flatMap, sum_flatMap]
  simp [List.map_map, Function.comp_def]
theorem tot_all {t : Tb} (h : ∀ i, i < t.length → (t.getD i []).length = wd t) : ((plc t.length (wd t)).map fun x => cellP t x).sum = tsum t := by
  rw [plc_sum, tsum, rsum]
  have e : (fun a : Fin t.length => ((List.finRange (wd t)).map fun b => cellP t (a, b)).sum) = fun a => (t.getD a.val []).sum := by
    funext a
    have h1 := finRange_get (t.getD a.val []) 0
    rw [h a.val a.isLt] at h1
    exact congrArg List.sum h1
  rw [e]
  have h2 := congrArg (List.map List.sum) (finRange_get t [])
  rw [List.map_map] at h2
  exact congrArg List.sum h2
theorem cellP_bd {t : Tb} (h : tabOk t = true) (x : Pc t.length (wd t)) : 0 ≤ cellP t x ∧ cellP t x ≤ 99 := by
  have hr := tab_row h x.1.isLt
  have hl := tab_lens h x.1.isLt
  simp only [rowOk, Bool.and_eq_true, List.all_eq_true] at hr
  have hj : x.2.val < (t.getD x.1.val []).length := by rw [hl]; exact x.2.isLt
  have := in3_parts.1 (hr.2 _ (List.getElem_mem hj))
  unfold cellP
  rw [getD_of _ _ hj]; exact this
theorem tot_bd {t : Tb} (h : tabOk t = true) : ∀ pre : List (Pc t.length (wd t)), 0 ≤ (pre.map fun x => cellP t x).sum ∧ (pre.map fun x => cellP t x).sum ≤ 99 * pre.length
  | [] => by simp
  | x :: pre => by
    have h1 := tot_bd h pre
    have h2 := cellP_bd h x
    simp only [List.map_cons, List.sum_cons, List.length_cons]
    omega
/-- Three blocks laid one behind the other. -/
theorem three_blk (w : World) (a b c : Array Value) (T T' T'' : TypeId) : ∃ W3, W3 = ((w.alloc (.cells a T)).alloc (.cells b T')).alloc (.cells c T'') ∧ Below w.heap.size w W3 ∧ W3.heap.size = w.heap.size + 1 + 1 + 1 ∧
    W3.heap[w.heap.size]? = some (.cells a T (0, 0)) ∧ W3.heap[w.heap.size + 1]? = some (.cells b T' (0, 0)) ∧ W3.heap[w.heap.size + 1 + 1]? = some (.cells c T'' (0, 0)) := by
  refine ⟨_, rfl, (((Below.refl _ _).alloc (Nat.le_refl _) _).alloc (by simp) _).alloc (by simp; omega) _, by simp, ?_, ?_, ?_⟩
  · exact (Below.heap_alloc _ _ _ (by simp; omega)).trans keepI1
  · exact (Below.heap_alloc _ _ _ (by simp)).trans newI1
  · have h := heap_alloc_new ((w.alloc (.cells a T)).alloc (.cells b T')) (.cells c T'')
    rw [World.size_alloc, World.size_alloc] at h; exact h
set_option maxRecDepth 100000 in
set_option maxHeartbeats 1000000 in
theorem iTotal_is (W : World) (t : Tb) (v : Value) (hv : IsR W v t) (g : Int) (hg : ttot t = g) (w : World) (hb : Below W.heap.size W w) :
    Calls Tryd.prog 26 #[v] w (Back (.int .i64 g) W) := by
  have HV := Lib.hid (hv.below hb)
  obtain ⟨q, hq⟩ : ∃ q, q = t.length := ⟨_, rfl⟩
  obtain ⟨d, hd⟩ : ∃ d, d = wd t := ⟨_, rfl⟩
  have HQ := Lib.hid hq
  have HD := Lib.hid hd
  have HB := Lib.hid hb
  have hWw := hb.size
  obtain ⟨A, c, rfl, a1, a2, _⟩ := hv
  rw [← hq] at HV ⊢
  have HR := Lib.hid HV.out.head.2.2.2
  have HG := Lib.hid hg
  obtain ⟨r, hrr⟩ : ∃ r, tabOk t = r := ⟨_, rfl⟩
  have HRR := Lib.hid hrr
  clear hg hrr hb a1 a2 hq hd
  refine (callsIn_wide (n := 6)).1 ?_
  refine callsIn_of_wp_marks Tryd.func26 rfl trivial ?_ rfl
  simp only [Tryd.ntmps26, List.size_toArray, List.length_cons, List.length_nil, Nat.reduceAdd, Nat.reduceSub, Array.replicate_succ, Array.replicate_zero, List.push_toArray, List.append_toArray, List.nil_append, List.cons_append]
  gi_wp2_with fail
  refine ⟨trivial, ?_⟩
  refine (callsIn_wide.2 (iTGrid_is w t _ HV.out r HRR.out _ (Below.refl _ _))).mono ?_
  rintro e w1 ⟨rfl, b1⟩
  have HB1 := Lib.hid b1
  have hz1 := b1.size
  cases r
  · rw [gridV_no]
    have HE := Lib.hid (show g = -1 by rw [← HG.out, ttot, if_neg (by rw [HRR.out]; decide)])
    gi_wp2
    exact ⟨_, results_tmp rfl _ _ _, by rw [HE.out]; rfl, HB.out.trans ((b1.alloc hz1 _).mono hWw)⟩
  have HE := Lib.hid (show g = tsum t by rw [← HG.out, ttot, if_pos HRR.out])
  have ht := tab_iff.1 HRR.out
  have hp : (1 ≤ q ∧ q ≤ 4) ∧ 1 ≤ d ∧ d ≤ 4 := by rw [HQ.out, HD.out]; exact ⟨⟨ht.h1, ht.h4⟩, ht.w1, ht.w4⟩
  obtain ⟨b, o, _, _, rfl, _, _, _, _, _⟩ := HR.out.at_ 0 (by rw [← HQ.out]; omega)
  rw [gridV_yes, ← HQ.out, ← HD.out]
  obtain ⟨W5, hW5, b5, hz5, k4, kt, k5⟩ := three_blk w1 #[.int .i64 q, .int .i64 d, .slice (some ⟨b, o, none⟩) q c] #[.int .i64 0] #[.int .i64 q, .int .i64 d] TGI TN TG
  have HW5 := Lib.hid hW5.symm
  have hlt5 : w1.heap.size + 1 + 1 < W5.heap.size := by omega
  have HB5 := Lib.hid b5
  clear ht hW5 hz5 b5
  gi_wp2_with fail
  refine ⟨trivial, ?_⟩
  refine (callsIn_wide.2 (iPlaces_any q d _)).mono ?_
  rintro e w3 ⟨rfl, rfl⟩
  gi_wp2
  rw [HW5.out]
  have HBW := Lib.hid (show ∀ X, Below w1.heap.size w1 X → Below w.heap.size w X from fun X h => HB1.out.trans (h.mono hz1))
  have HSB := Lib.hid (show ∀ pre : List (Pc q d), 0 ≤ (pre.map fun x => cellP t x).sum ∧ (pre.map fun x => cellP t x).sum ≤ 99 * pre.length by
    have := HQ.out; have := HD.out; subst q d; exact tot_bd HRR.out)
  have HCB := Lib.hid (show ∀ x : Pc q d, 0 ≤ cellP t x ∧ cellP t x ≤ 99 by
    have := HQ.out; have := HD.out; subst q d; exact cellP_bd HRR.out)
  have hN : (plc q d).length ≤ 16 := by rw [plc_len]; exact Nat.mul_le_mul hp.1.2 hp.2.2
  refine' wpIn_rangeFunc_ownG (α := Pc q d) rfl (by omega) (gf := 80) (lb := #[.pointer (some ⟨w1.heap.size + 1 + 1, 0, none⟩)]) rfl trivial (enters_of Tryd.func80 (by kernel_rfl) rfl)
    (places_stops 5 (by omega) (w1.heap.size + 1 + 1) q d (by omega) (by omega) W5 (by omega) k5) kB_t (kB_b hlt5) (Below.refl _ _) (fun _ => rfl)
    (fun pre X => (Boxed X (w1.heap.size + 1) TN (.int .i64 (pre.map fun x => cellP t x).sum) ∧ X.heap[w1.heap.size]? = some (.cells #[.int .i64 q, .int .i64 d, .slice (some ⟨b, o, none⟩) q c] TGI (0, 0))) ∧ Below w1.heap.size w1 X)
    (fun _ _ _ => False)
    (OwnFrom.and (fun s X Y row hs hg hr => ⟨boxed_own _ TN (fun (_ : Unit) => Value.int .i64 (s.map fun x => cellP t x).sum) () X Y row hs.1 hg (fun r e => (hr r e).2), (grownBy_keeps_cells hg (fun r e => (hr r e).2) hs.2 rfl).trans hs.2⟩) (ownFrom_below (Nat.le_refl _) (by omega)))
    (fun _ _ _ _ _ hs _ _ => hs)
    ⟨⟨kt, k4⟩, HB5.out⟩
    _ ?assign ?body ?done ?stop
  case assign =>
    intro l x X K hK
    gi_wp2
    exact hK
  case body =>
    rintro l pre ⟨⟨i, hi⟩, ⟨j, hj⟩⟩ X ⟨⟨hbx, hgr⟩, hbX⟩ hlen
    have hwX := HBW.out X hbX
    have hit : i < t.length := by rw [← HQ.out]; exact hi
    have hln : (t.getD i []).length = d := by rw [tab_lens HRR.out hit, HD.out]
    obtain ⟨b', o', b2, o2, c2, hA, hb1, hc1, _, hb3, hc2⟩ := HR.out.cell2 (i := i) (j := j) hit (by rw [hln]; exact hj)
    injection hA with hA
    injection hA with g1 g2 _
    subst g1 g2
    have e1 := (hwX.cell (p := ⟨b, o + i, none⟩) hb1).trans hc1
    have e2 := (hwX.cell (p := ⟨b2, o2 + j, none⟩) hb3).trans hc2
    rw [hln] at e1
    have HS := Lib.hid (HSB.out pre)
    have HC := Lib.hid (HCB.out (⟨i, hi⟩, ⟨j, hj⟩))
    obtain ⟨y, hy⟩ : ∃ y, (t.getD i []).getD j 0 = y := ⟨_, rfl⟩
    obtain ⟨s, hs⟩ : ∃ s, (pre.map fun x : Pc q d => cellP t x).sum = s := ⟨_, rfl⟩
    rw [hy] at e2
    rw [hs] at hbx HS
    have hcy : cellP t ((⟨i, hi⟩, ⟨j, hj⟩) : Pc q d) = y := hy
    rw [hcy] at HC
    have hwr : IntKind.i64.wrap (s + y) = s + y := by rw [IntKind.wrap_i64]; have := HS.out; have := HC.out; omega
    have HSY := Lib.hid (show ((pre ++ [((⟨i, hi⟩, ⟨j, hj⟩) : Pc q d)]).map fun x => cellP t x).sum = s + y by
      rw [List.map_append, List.sum_append, hs, List.map_cons, List.map_nil, hcy]; simp)
    obtain ⟨_, _, e0, _, _, _⟩ := blkG3 hgr
    have et := hbx.cell
    have HBX := Lib.hid hbX
    have HGR := Lib.hid hgr
    have HBOX := Lib.hid hbx
    have hii : (i : Int) < (q : Int) := by omega
    have hji : (j : Int) < (d : Int) := by omega
    clear hc1 hc2 hln hlen hy hbX hwX hcy hs hgr hbx hb1 hb3
    gi_wp2
    refine region_still_round 10 (by kernel_rfl) (by kernel_rfl) (by kernel_rfl) ?_
    simp only [List.take_succ_cons, List.take_zero, List.drop_succ_cons, List.drop_zero]
    repeat still_step
    try refine wpStill_nil ?_
    change wpList _ _ _ _ _ X.drew
    obtain ⟨Z, hZ⟩ : ∃ Z, Z = X.drew := ⟨_, rfl⟩
    have hbox : Boxed Z (w1.heap.size + 1) TN (.int .i64 s) := by rw [hZ]; exact HBOX.out
    have zt := hbox.cell
    have zf := hbox.frozen
    have HZB := Lib.hid (show Below w1.heap.size w1 Z by rw [hZ]; exact HBX.out.drew)
    have HZG := Lib.hid (show Z.heap[w1.heap.size]? = some (.cells #[.int .i64 q, .int .i64 d, .slice (some ⟨b, o, none⟩) q c] TGI (0, 0)) by rw [hZ]; exact HGR.out)
    have HZ2 := Lib.hid (show KB (w1.heap.size + 1 + 1) X Z ∧ KeepsOthers X Z from by rw [hZ]; exact ⟨rfl, KeepsOthers.drew X⟩)
    have HZX := Lib.hid hbox
    rw [← hZ]
    clear hZ et hbox
    go_wp2
    refine ⟨(HZ2.out.2.trans (KeepsOthers.setCell Z _ _)).from _, kB_t HZ2.out.1 (Below.heap_setCell Z ⟨w1.heap.size + 1, 0, none⟩ _ _ (by show w1.heap.size + 1 + 1 ≠ w1.heap.size + 1; omega)), ⟨?_, ?_⟩, HZB.out.setCell (p := ⟨w1.heap.size + 1, 0, none⟩) (by show w1.heap.size ≤ w1.heap.size + 1; omega) _⟩
    · rw [HSY.out]; exact HZX.out.set _
    · exact (Below.heap_setCell Z ⟨w1.heap.size + 1, 0, none⟩ _ _ (by show w1.heap.size ≠ w1.heap.size + 1; omega)).trans HZG.out
  case done =>
    rintro D ys X hD rfl ⟨⟨hbx, _⟩, hbX⟩ hK
    have hsum : ((plc q d).map fun x => cellP t x).sum = g := by
      rw [HE.out]
      have := HQ.out; have := HD.out; subst q d; exact tot_all fun i hi => tab_lens HRR.out hi
    rw [hsum] at hbx
    have et := hbx.cell
    have HK := Lib.hid hK
    have HBX := Lib.hid hbX
    clear hK hbX hsum hbx
    gi_wp2
    refine ⟨by simp, .inl ⟨_, _, rfl, run_takeDeferred HK.out, ?_⟩⟩
    exact ⟨_, results_tmp rfl _ _ _, rfl, HB.out.trans (Below.mono ((HBW.out X HBX.out).trans (belowK_b (w := w) (Nat.le_refl _) _ D _ _ (by omega) HK.out rfl rfl)) hWw)⟩
  case stop =>
    rintro D c pre X hD _ h _
    exact h.elim
end Go.Proofs.YtobgceebolmfcaaDoor
namespace Go.Proofs.YtobgceebolmfcaaDoor
open Go.RowKit Go.Shelf
attribute [local go_sem] Oper.semAt_some
def gotB {q d : Nat} (pre : List (Pc q d)) (i j : Nat) : Bool := pre.any fun x => decide (x.1.val = i ∧ x.2.val = j)
theorem gotB_nil {q d : Nat} (i j : Nat) : gotB ([] : List (Pc q d)) i j = false := rfl
theorem gotB_snoc {q d : Nat} (pre : List (Pc q d)) (x : Pc q d) (i j : Nat) : gotB (pre ++ [x]) i j = (gotB pre i j || decide (x.1.val = i ∧ x.2.val = j)) := by simp [gotB]
theorem gotB_all {q d : Nat} {i j : Nat} (hi : i < q) (hj : j < d) : gotB (plc q d) i j = true := by
  unfold gotB
  rw [List.any_eq_true]
  exact ⟨(⟨i, hi⟩, ⟨j, hj⟩), plc_mem _, by simp⟩
def turnBy (t : Tb) {q d : Nat} (pre : List (Pc q d)) : Tb := mat d q fun a b => if gotB pre b a = true then (t.getD b []).getD a 0 else 0
theorem turnBy_nil (t : Tb) {q d : Nat} : turnBy t ([] : List (Pc q d)) = List.replicate d (zerow q) := by
  have h := zeros_mat d q
  unfold zeros zrow at h
  unfold turnBy zerow
  rw [h]
  exact mat_ext fun a b _ _ => by rw [gotB_nil]; rfl
theorem turnBy_snoc (t : Tb) {q d : Nat} (pre : List (Pc q d)) (x : Pc q d) :
    (turnBy t pre).set x.2.val (((turnBy t pre).getD x.2.val []).set x.1.val ((t.getD x.1.val []).getD x.2.val 0)) = turnBy t (pre ++ [x]) := by
  rw [turnBy, mat_set _ _ _ x.2.isLt x.1.isLt, turnBy]
  refine mat_ext fun a b _ _ => ?_
  rw [gotB_snoc]
  by_cases h : a = x.2.val ∧ b = x.1.val
  · rw [if_pos h, h.1, h.2]; simp
  · rw [if_neg h]
    have : decide (x.1.val = b ∧ x.2.val = a) = false := decide_eq_false fun e => h ⟨e.2.symm, e.1.symm⟩
    rw [this, Bool.or_false]
theorem turnBy_all (t : Tb) : turnBy t (plc t.length (wd t)) = turn t := by
  rw [turn_mat, turnBy]
  exact mat_ext fun a b ha hb => by rw [if_pos (gotB_all hb ha)]
theorem Mine.from_ {B T n : Nat} {β : Type} (f : β → Tb) (v : Value) (hn : T ≤ n) : OwnFrom n (fun (s : β) X => Mine X B T v (f s)) := fun s X Y row hs hg hr =>
  hs.same hg.size fun k _ hT => hg.block k (Nat.lt_of_lt_of_le hT hs.1) fun e => by have := (hr k e.symm).1; omega
theorem cells_from {n g : Nat} {β : Type} {a : Array Value} {T : TypeId} : OwnFrom n (fun (_ : β) X => X.heap[g]? = some (.cells a T (0, 0))) := fun _ _ _ _ hs hg hr =>
  (grownBy_keeps_cells hg (fun r e => (hr r e).2) hs rfl).trans hs
/-- Two further blocks. -/
theorem two_blk (w : World) (a b : Array Value) (T T' : TypeId) : ∃ W3, W3 = (w.alloc (.cells a T)).alloc (.cells b T') ∧ Below w.heap.size w W3 ∧ W3.heap.size = w.heap.size + 1 + 1 ∧
    W3.heap[w.heap.size]? = some (.cells a T (0, 0)) ∧ W3.heap[w.heap.size + 1]? = some (.cells b T' (0, 0)) :=
  ⟨_, rfl, ((Below.refl _ _).alloc (Nat.le_refl _) _).alloc (by simp) _, by simp, keepI1, newI1⟩
theorem one_blk (w : World) (a : Array Value) (T : TypeId) : ∃ W3, W3 = w.alloc (.cells a T) ∧ Below w.heap.size w W3 ∧ W3.heap.size = w.heap.size + 1 ∧ W3.heap[w.heap.size]? = some (.cells a T (0, 0)) :=
  ⟨_, rfl, (Below.refl _ _).alloc (Nat.le_refl _) _, by simp, heap_alloc_new _ _⟩
theorem none_own {w w1 : World} {o : Obj} (hz : w.heap.size ≤ w1.heap.size) : Mine ((w1.alloc o).alloc (.cells #[] TI)) w.heap.size ((w1.alloc o).alloc (.cells #[] TI)).heap.size (.slice (some ⟨w1.heap.size + 1, 0, none⟩) 0 0) [] := by
  have h := mine_new (w := w1.alloc o) (B := w.heap.size) (by simp; omega)
  rw [World.size_alloc] at h
  exact h.up
end Go.Proofs.YtobgceebolmfcaaDoor
namespace Go.Proofs.YtobgceebolmfcaaDoor
open Go.RowKit Go.Shelf
attribute [local go_sem] Oper.semAt_some
/-- A mask by its flags. -/
def matM (h n : Nat) (f : Nat → Nat → Bool) : Mk := (List.range h).map fun i => (List.range n).map (f i)
theorem matM_len (h n : Nat) (f : Nat → Nat → Bool) : (matM h n f).length = h := by simp [matM]
theorem matM_row (h n : Nat) (f : Nat → Nat → Bool) {i : Nat} (hi : i < h) : (matM h n f).getD i [] = (List.range n).map (f i) := by
  rw [getD_of _ _ (by rw [matM_len]; exact hi)]; simp [matM]
theorem matM_rlen (h n : Nat) (f : Nat → Nat → Bool) {i : Nat} (hi : i < h) : ((matM h n f).getD i []).length = n := by rw [matM_row h n f hi]; simp
theorem matM_cell (h n : Nat) (f : Nat → Nat → Bool) {i j : Nat} (hi : i < h) (hj : j < n) : ((matM h n f).getD i []).getD j false = f i j := by
  rw [matM_row h n f hi, getD_of _ _ (by simpa using hj)]; simp
theorem matM_ext {h n : Nat} {f g : Nat → Nat → Bool} (e : ∀ i j, i < h → j < n → f i j = g i j) : matM h n f = matM h n g :=
  List.map_congr_left fun i hi => List.map_congr_left fun j hj => e i j (List.mem_range.1 hi) (List.mem_range.1 hj)
theorem matM_set (h n : Nat) (f : Nat → Nat → Bool) {i j : Nat} (hi : i < h) (_hj : j < n) (x : Bool) :
    (matM h n f).set i (((matM h n f).getD i []).set j x) = matM h n fun a b => if a = i ∧ b = j then x else f a b := by
  refine List.ext_getElem (by rw [List.length_set, matM_len, matM_len]) fun a ha _ => ?_
  rw [List.length_set, matM_len] at ha
  have e : (matM h n fun a b => if a = i ∧ b = j then x else f a b)[a]'(by rw [matM_len]; exact ha) = (List.range n).map fun b => if a = i ∧ b = j then x else f a b := by simp [matM]
  rw [e, List.getElem_set]
  by_cases hai : i = a
  · subst hai
    rw [if_pos rfl, matM_row h n f hi]
    refine List.ext_getElem (by simp) fun b hb _ => ?_
    rw [List.getElem_set]
    by_cases hbj : j = b
    · subst hbj; simp
    · rw [if_neg hbj]; simp; intro h; exact absurd h.symm hbj
  · rw [if_neg hai]
    have : ¬ a = i := fun h => hai h.symm
    simp [matM, this]
def isSmall (k y : Int) : Bool := decide (0 < y) && decide (y < k)
def smallBy (t : Tb) (k : Int) {q d : Nat} (pre : List (Pc q d)) : Mk := matM q d fun a b => gotB pre a b && isSmall k ((t.getD a []).getD b 0)
theorem smallBy_nil (t : Tb) (k : Int) {q d : Nat} : smallBy t k ([] : List (Pc q d)) = List.replicate q (zerowM d) := by
  unfold smallBy matM zerowM
  simp only [gotB_nil, Bool.false_and]
  rw [List.map_const', List.map_const', List.length_range, List.length_range]
theorem smallBy_snoc (t : Tb) (k : Int) {q d : Nat} (pre : List (Pc q d)) (x : Pc q d) :
    (smallBy t k pre).set x.1.val (((smallBy t k pre).getD x.1.val []).set x.2.val (isSmall k ((t.getD x.1.val []).getD x.2.val 0))) = smallBy t k (pre ++ [x]) := by
  rw [smallBy, matM_set _ _ _ x.1.isLt x.2.isLt, smallBy]
  refine matM_ext fun a b _ _ => ?_
  rw [gotB_snoc]
  by_cases h : a = x.1.val ∧ b = x.2.val
  · rw [if_pos h, h.1, h.2]; simp
  · rw [if_neg h]
    have : decide (x.1.val = a ∧ x.2.val = b) = false := decide_eq_false fun e => h ⟨e.1.symm, e.2.symm⟩
    rw [this, Bool.or_false]
theorem smallBy_all {t : Tb} (h : ∀ i, i < t.length → (t.getD i []).length = wd t) (k : Int) : smallBy t k (plc t.length (wd t)) = msmall t k := by
  refine List.ext_getElem (by rw [smallBy, matM_len, msmall, List.length_map]) fun i h1 h2 => ?_
  rw [smallBy, matM_len] at h1
  have hl := h i h1
  have e1 : (smallBy t k (plc t.length (wd t)))[i]'(by rw [smallBy, matM_len]; exact h1) = (List.range (wd t)).map fun b => gotB (plc t.length (wd t)) i b && isSmall k ((t.getD i []).getD b 0) := by simp [smallBy, matM]
  have e2 : (msmall t k)[i] = small k t[i] := by simp [msmall]
  rw [e1, e2]
  rw [getD_of _ _ h1] at hl ⊢
  refine List.ext_getElem (by simp [small, hl]) fun j h3 h4 => ?_
  have hj : j < wd t := by simpa using h3
  simp only [List.getElem_map, List.getElem_range, small, gotB_all h1 hj, Bool.true_and, isSmall]
  rw [getD_of _ _ (by rw [hl]; exact hj)]
theorem MineB.from_ {B T n : Nat} {β : Type} (f : β → Mk) (v : Value) (hn : T ≤ n) : OwnFrom n (fun (s : β) X => MineB X B T v (f s)) := fun s X Y row hs hg hr =>
  hs.same hg.size fun k _ hT => hg.block k (Nat.lt_of_lt_of_le hT hs.1) fun e => by have := (hr k e.symm).1; omega
theorem none_ownM {w w1 : World} {o : Obj} (hz : w.heap.size ≤ w1.heap.size) : MineB ((w1.alloc o).alloc (.cells #[] TBS)) w.heap.size ((w1.alloc o).alloc (.cells #[] TBS)).heap.size (.slice (some ⟨w1.heap.size + 1, 0, none⟩) 0 0) [] := by
  have h := mineB_new (w := w1.alloc o) (B := w.heap.size) (by simp; omega)
  rw [World.size_alloc] at h
  exact h.up
end Go.Proofs.YtobgceebolmfcaaDoor
