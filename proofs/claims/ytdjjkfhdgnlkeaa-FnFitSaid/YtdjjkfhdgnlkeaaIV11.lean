/- Contracts of the program: tables that fit. -/
import Derived.Test.YtdjjkfhdgnlkeaaIVB
import Derived.Test.YtdjjkfhdgnlkeaaIV10
import Derived.Test.YtdjjkfhdgnlkeaaBM8
import Derived.Test.YtdjjkfhdgnlkeaaBMB
namespace Go.Proofs.Ytdjjkfhdgnlkeaa
open Go.RowKit Go.Shelf
attribute [local go_sem] Oper.semAt_some
/-- Are two tables equal in all cells that are not hidden? -/
def agr (q d : Nat) (m : Mk) (a b : Tb) : Prop := ∀ k l, k < q → l < d → hF m k l = false → cF a k l = cF b k l
/-- Three blocks at the beginning of a call. -/
theorem threeI_any (w : World) (a b c : Array Value) (T T' T'' : TypeId) : ∃ W3, W3 = ((w.alloc (.cells a T)).alloc (.cells b T')).alloc (.cells c T'') ∧ Below w.heap.size w W3 ∧ W3.heap.size = w.heap.size + 1 + 1 + 1 ∧
    (∀ X, Below W3.heap.size W3 X → X.heap[w.heap.size]? = some (.cells a T (0, 0)) ∧ X.heap[w.heap.size + 1]? = some (.cells b T' (0, 0)) ∧ X.heap[w.heap.size + 1 + 1]? = some (.cells c T'' (0, 0)) ∧ Below w.heap.size w X) := by
  obtain ⟨W3, hW, hb, hz, k0, k1, k2⟩ := three_blk w a b c T T' T''
  exact ⟨W3, hW, hb, hz, fun X h => ⟨(h.block _ (by omega)).trans k0, (h.block _ (by omega)).trans k1, (h.block _ (by omega)).trans k2, hb.trans (h.mono hb.size)⟩⟩
set_option maxRecDepth 100000 in
set_option maxHeartbeats 4000000 in
theorem iAgr_is (W : World) (a b : Tb) (v z : Value) (hv : IsR W v a) (hz : IsR W z b) (m : Mk) (u : Value) (hu : IsM W u m) (q d : Nat) (hS : Shp a m q d) (hbl : b.length = q) (hbr : ∀ k, k < q → (b.getD k []).length = d) (g : Bool) (hg : g = true ↔ agr q d m a b) (w : World) (hw : Below W.heap.size W w) :
    Calls Try.prog 33 #[fitV q d v u, grV q d z] w (Back (.bool g) W) := by
  have HSH := Lib.hid hS
  have HBR := Lib.hid hbr
  have HG := Lib.hid hg
  have hq4 : q ≤ 4 := hS.q4
  have hd4 : d ≤ 4 := hS.d4
  obtain ⟨A, c, hvv, _, _, hL⟩ := id hv
  obtain ⟨A2, c2, hzz, _, _, hL2⟩ := id hz
  rw [hS.tl] at hvv
  rw [hbl] at hzz
  subst hvv hzz
  have HL := Lib.hid hL
  have HL2 := Lib.hid hL2
  have HU := Lib.hid hu
  obtain ⟨Au, cu, huu, _, _, _⟩ := id hu
  rw [hS.ml] at huu
  subst huu
  obtain ⟨b0, o0, _, _, hA, _, _, _, _, _⟩ := hL.at_ 0 (by rw [hS.tl]; exact hS.q1)
  obtain ⟨b1, o1, _, _, hA2, _, _, _, _, _⟩ := hL2.at_ 0 (by rw [hbl]; exact hS.q1)
  obtain ⟨bm, om, cm, _, _, _, hum, _, _, _, _⟩ := hu.flag (k := 0) (c := 0) (by rw [hS.ml]; exact hS.q1) (by rw [hS.mr 0 hS.q1]; exact hS.d1)
  injection hum with hum1 hum2 hum3
  subst hA hA2 hum1 hum3
  obtain ⟨W2, hW, hb2, hz2, hf⟩ := threeI_any w #[.int .i64 q, .int .i64 d, .slice (some ⟨b0, o0, none⟩) q c, .slice (some ⟨bm, om, none⟩) q cu] #[.int .i64 q, .int .i64 d, .slice (some ⟨b1, o1, none⟩) q c2] #[.bool false] TF TGI 4
  have HW := Lib.hid hW.symm
  have HF := Lib.hid hf
  have HZ2 := Lib.hid hz2
  have HB2 := Lib.hid (hw.trans (hb2.mono hw.size))
  have HBL := Lib.hid hbl
  have hWw := hw.size
  obtain ⟨p0, p1, _, _⟩ := blkF (hf W2 (Below.refl _ _)).1
  rw [← HW.out] at p0 p1
  clear hum2 hv hz hu hS hbl hbr hg hL hL2 hW hb2 hz2 hf hw
  refine (callsIn_wide (n := 6)).1 ?_
  refine callsIn_of_wp_marks Try.func33 rfl trivial ?_ rfl
  simp only [Try.ntmps33, List.size_toArray, List.length_cons, List.length_nil, Nat.reduceAdd, Nat.reduceSub, Array.replicate_succ, Array.replicate_zero, List.push_toArray, List.append_toArray, List.nil_append, List.cons_append]
  gi_wp2_with fail
  rw [HW.out]
  refine ⟨trivial, ?_⟩
  refine (callsIn_wide.2 (iPlaces_any q d _)).mono ?_
  rintro e w3 ⟨rfl, rfl⟩
  clear p0 p1
  gi_wp2
  obtain ⟨W5, hW5, b5, hz5, k5⟩ := one_blk W2 #[.int .i64 q, .int .i64 d] TG
  rw [← hW5]
  have HB5 := Lib.hid b5
  have hlt5 : W2.heap.size < W5.heap.size := by omega
  have hw5 : w.heap.size ≤ W5.heap.size := by have := HZ2.out; omega
  have HRB := Lib.hid (show ∀ X, Below W5.heap.size W5 X → Boxed X (w.heap.size + 1 + 1) 4 (.bool false) from fun X h => (HF.out X (b5.trans (h.mono b5.size))).2.2.1)
  clear hW5 b5 hz5
  refine' wpIn_rangeFunc_ownG (α := Pc q d) rfl (by omega) (gf := 52) (lb := #[.pointer (some ⟨W2.heap.size, 0, none⟩)]) rfl trivial (enters_of Try.func52 (by kernel_rfl) rfl)
    (places_stops 5 (by omega) W2.heap.size q d (by omega) (by omega) W5 (by omega) k5) kB_t (kB_b hlt5) (Below.refl _ _) (fun _ => rfl)
    (fun pre X => (∀ x ∈ pre, hF m x.1.val x.2.val = false → cF a x.1.val x.2.val = cF b x.1.val x.2.val) ∧ Below W5.heap.size W5 X)
    (fun cd _ X => (cd = .ret ∧ g = false ∧ Boxed X (w.heap.size + 1 + 1) 4 (.bool false)) ∧ Below w.heap.size W5 X)
    (OwnFrom.and (ownFrom_pure _ _) (ownFrom_below (Nat.le_refl _) (Nat.le_refl _)))
    (fun _ => OwnFrom.and (fun s X Y row hs hg hr => by
      obtain ⟨h1, h2, h4⟩ := hs
      exact ⟨h1, h2, boxed_own _ 4 (fun (_ : Unit) => Value.bool false) () X Y row h4 hg (fun r e => (hr r e).2)⟩) (ownFrom_below (by have := HZ2.out; omega) (by have := HZ2.out; omega)))
    ⟨(fun _ h => by cases h), Below.refl _ _⟩
    _ ?assign ?body ?done ?stop
  case assign =>
    intro l x X K hK
    gi_wp2
    exact hK
  case body =>
    rintro l pre ⟨⟨i, hi⟩, ⟨j, hj⟩⟩ X ⟨hp, hbX⟩ hlen
    have hz2 := HZ2.out
    have h2X := HB5.out.trans (hbX.mono HB5.out.size)
    have hWX : Below W.heap.size W X := HB2.out.trans (h2X.mono HB2.out.size)
    have H2X := Lib.hid h2X
    obtain ⟨b', o', b2, o2, d2, hA, hb1, hc1, _, hb3, hc2⟩ := HL.out.cell2 (i := i) (j := j) (by rw [HSH.out.tl]; exact hi) (by rw [HSH.out.tr i hi]; exact hj)
    injection hA with hA
    injection hA with g1 g3 _
    subst g1 g3
    obtain ⟨b', o', b4, o4, d4, hA, hb5, hc5, _, hb6, hc6⟩ := HL2.out.cell2 (i := i) (j := j) (by rw [HBL.out]; exact hi) (by rw [HBR.out i hi]; exact hj)
    injection hA with hA
    injection hA with g1 g3 _
    subst g1 g3
    obtain ⟨b', o', c', b7, o7, d7, hum, hb7, hc7, hb8, hc8⟩ := HU.out.flag (k := i) (c := j) (by rw [HSH.out.ml]; exact hi) (by rw [HSH.out.mr i hi]; exact hj)
    injection hum with hum1 hum2 hum3
    injection hum1 with hum1
    injection hum1 with g1 g3 _
    subst g1 g3 hum3
    rw [HSH.out.tr i hi] at hc1
    rw [HBR.out i hi] at hc5
    rw [HSH.out.mr i hi] at hc7
    obtain ⟨y, hy⟩ : ∃ y, cF a i j = y := ⟨_, rfl⟩
    obtain ⟨y', hy'⟩ : ∃ y, cF b i j = y := ⟨_, rfl⟩
    obtain ⟨fl, hfl⟩ : ∃ fl, hF m i j = fl := ⟨_, rfl⟩
    have hyy : (a.getD i []).getD j 0 = y := hy
    have hyy' : (b.getD i []).getD j 0 = y' := hy'
    rw [hyy] at hc2
    rw [hyy'] at hc6
    rw [hfl] at hc8
    have e1 := (hWX.cell (p := ⟨b0, o0 + i, none⟩) hb1).trans hc1
    have e2 := (hWX.cell (p := ⟨b2, o2 + j, none⟩) hb3).trans hc2
    have e3 := (hWX.cell (p := ⟨b1, o1 + i, none⟩) hb5).trans hc5
    have e4 := (hWX.cell (p := ⟨b4, o4 + j, none⟩) hb6).trans hc6
    have e5 := (hWX.cell (p := ⟨bm, om + i, none⟩) hb7).trans hc7
    have e6 := (hWX.cell (p := ⟨b7, o7 + j, none⟩) hb8).trans hc8
    obtain ⟨_, _, e7, e8⟩ := blkF (HF.out X h2X).1
    obtain ⟨_, _, e9, _, _, _⟩ := blkG3 (HF.out X h2X).2.1
    have HBX := Lib.hid hbX
    have HY := Lib.hid hy
    have HY' := Lib.hid hy'
    have HFL := Lib.hid hfl
    have HPP := Lib.hid hp
    have hii : (i : Int) < (q : Int) := by omega
    have hji : (j : Int) < (d : Int) := by omega
    have HNEXT := Lib.hid (show (hF m i j = false → cF a i j = cF b i j) → ∀ x ∈ pre ++ [((⟨i, hi⟩, ⟨j, hj⟩) : Pc q d)], hF m x.1.val x.2.val = false → cF a x.1.val x.2.val = cF b x.1.val x.2.val from fun hh x hx => by
      rcases List.mem_append.1 hx with h | h
      · exact hp x h
      · rw [List.mem_singleton.1 h]; exact hh)
    clear hum2 hc1 hc2 hc5 hc6 hc7 hc8 hb1 hb3 hb5 hb6 hb7 hb8 hy hy' hyy hyy' hfl hp hbX hWX h2X hlen
    cases fl
    · by_cases he : y = y'
      · have hb1 : (y != y') = false := by simp [he]
        have HE := Lib.hid he
        clear he
        gi_wp2
        refine region_quiet_round (by kernel_rfl) (by kernel_rfl) (by kernel_rfl) ?_
        repeat (go_big_quiet_step (fail))
        refine wpQuiet_nil ?_
        rintro _ ⟨nq, rfl⟩
        clear hb1
        gi_wp2
        refine ⟨keepsF (below_draws (Below.refl _ X) nq) _, rfl, HNEXT.out fun _ => by rw [HY.out, HY'.out, HE.out], below_draws HBX.out nq⟩
      · have hb1 : (y != y') = true := by rw [bne_iff_ne]; exact he
        have HE := Lib.hid (show g = false by
          cases hg : g
          · rfl
          · have h9 := HG.out.1 hg i j hi hj HFL.out
            rw [HY.out, HY'.out] at h9
            exact absurd h9 he)
        clear he
        gi_wp2
        refine region_quiet_round (by kernel_rfl) (by kernel_rfl) (by kernel_rfl) ?_
        repeat (go_big_quiet_step (fail))
        refine wpQuiet_nil ?_
        rintro _ ⟨nq, rfl⟩
        clear hb1 e1 e2 e3 e4 e5 e6 e7 e8 e9
        have hrb := HRB.out _ (below_draws HBX.out nq)
        have c3 := hrb.cell
        have f3 := hrb.frozen
        have HRB2 := Lib.hid (hrb.set (.bool false))
        have HBS := Lib.hid (((below_draws HBX.out nq).mono hw5).setCell (p := ⟨w.heap.size + 1 + 1, 0, none⟩) (by show w.heap.size ≤ w.heap.size + 1 + 1; omega) (.bool false))
        have HKO := Lib.hid ((keepsF (below_draws (Below.refl _ X) nq) W5.heap.size).trans ((KeepsOthers.setCell (X.drewN nq) ⟨w.heap.size + 1 + 1, 0, none⟩ (.bool false)).from _))
        clear hrb
        gi_wp2
        exact ⟨HKO.out, ⟨rfl, HE.out, HRB2.out⟩, HBS.out⟩
    · gi_wp2
      refine region_quiet_round (by kernel_rfl) (by kernel_rfl) (by kernel_rfl) ?_
      repeat (go_big_quiet_step (fail))
      refine wpQuiet_nil ?_
      rintro _ ⟨nq, rfl⟩
      gi_wp2
      refine ⟨keepsF (below_draws (Below.refl _ X) nq) _, rfl, HNEXT.out (fun h => by rw [HFL.out] at h; cases h), below_draws HBX.out nq⟩
  case done =>
    rintro D ys X hD rfl ⟨hp, hbX⟩ hK
    have hz2 := HZ2.out
    have HE := Lib.hid (show g = true from HG.out.2 fun k l hk hl hh => hp (⟨k, hk⟩, ⟨l, hl⟩) (plc_mem _) hh)
    have hrb := HRB.out X hbX
    have c3 := hrb.cell
    have f3 := hrb.frozen
    have hb9 : Below w.heap.size W5 (X.setCell ⟨w.heap.size + 1 + 1, 0, none⟩ (.bool true)) := (hbX.mono hw5).setCell (p := ⟨w.heap.size + 1 + 1, 0, none⟩) (by show w.heap.size ≤ w.heap.size + 1 + 1; omega) _
    have hK' := ((KeepsOthers.setCell X ⟨w.heap.size + 1 + 1, 0, none⟩ (.bool true)).from 0).same D _ (Nat.zero_le _) hK rfl
    have hrb2 := hrb.set (.bool true)
    have HK := Lib.hid hK'
    have HBF := Lib.hid hb9
    have hput := fun v (p : Addr) h => cell_kept (a := p) (v := v) h (grownBy_putObj' _ D (.deferred none)) (fun r e => by cases e; exact ⟨_, hK', rfl⟩)
    have e3 := Lib.hid (hput _ _ hrb2.cell)
    clear hp hbX hK' hb9 hrb hrb2 hput hK
    gi_wp2
    refine ⟨by simp, .inl ⟨_, _, rfl, run_takeDeferred HK.out, ?_⟩⟩
    have e3 := e3.out
    refine ⟨.bool true, by simp [results, Try.results33, go_sem, *], by rw [HE.out], ?_⟩
    exact HB2.out.trans ((HB5.out.mono HB2.out.size).trans (Below.mono (HBF.out.trans (belowK_b (w := w) (Nat.le_refl _) _ D _ _ (by omega) HK.out rfl rfl)) hWw))
  case stop =>
    rintro D c' pre X hD hpre ⟨⟨rfl, hg, hb5⟩, hB⟩ hK
    have hz2 := HZ2.out
    have HE := Lib.hid hg
    have hput := fun v (p : Addr) h => cell_kept (a := p) (v := v) h (grownBy_putObj' X D (.deferred none)) (fun r e => by cases e; exact ⟨_, hK, rfl⟩)
    have e3 := Lib.hid (hput _ _ hb5.cell)
    have HK := Lib.hid hK
    have HBF := Lib.hid hB
    clear hput hb5 hpre hB hK hg
    gi_wp2
    refine ⟨by simp, .inl ⟨_, _, rfl, run_takeDeferred HK.out, ?_⟩⟩
    have e3 := e3.out
    refine ⟨.bool false, by simp [results, Try.results33, go_sem, *], by rw [HE.out], ?_⟩
    exact HB2.out.trans ((HB5.out.mono HB2.out.size).trans (Below.mono (HBF.out.trans (belowK_b (w := w) (Nat.le_refl _) _ D _ _ (by omega) HK.out rfl rfl)) hWw))
theorem vec_of {l : List Int} {n : Nat} (h : l.length = n) : l = vec n fun k => l.getD k 0 := by
  subst h
  refine List.ext_getElem (by rw [vec_len]) fun k h1 h2 => ?_
  rw [← getD_of _ 0 h2, vec_get _ _ h1, getD_of _ _ h1]
theorem wd_fit {x : Tb} {q d : Nat} (_h1 : x.length = q) (h0 : 1 ≤ q) (h2 : ∀ k, k < q → (x.getD k []).length = d) : wd x = d := by rw [wd_zero]; exact h2 0 h0
/-- What fits, as the program asks it. -/
theorem fit_iff {t x : Tb} {m : Mk} (h : mkOk t m = true) : fitB t m x = true ↔ numOk x 396 = true ∧ (x.length = t.length ∧ wd x = wd t) ∧ (rsum x = rsum t ∧ csum x = csum t) ∧ agr t.length (wd t) m t x := by
  have ht := mk_tab h
  have hq1 := ht.h1
  have hq4 := ht.h4
  have hd1 := ht.w1
  have hd4 := ht.w4
  rw [fitB_iff]
  constructor
  · intro f
    have hl := f.2.1
    have hr : ∀ k, k < t.length → (x.getD k []).length = wd t := fun k hk => f.2.2.1 _ (by rw [getD_of _ _ (by rw [hl]; exact hk)]; exact List.getElem_mem _)
    have hw := wd_fit hl hq1 hr
    have hrect : rect x = true := rect_all (by simp only [in3, Bool.and_eq_true, decide_eq_true_eq]; omega) fun i hi => by rw [hw]; exact hr i (by omega)
    refine ⟨num_cells hrect fun c => ?_, ⟨hl, hw⟩, ⟨?_, ?_⟩, fun k l hk hl' hh => (f.2.2.2.off k l hk hl' hh).symm⟩
    · have h1 := c.1.isLt
      have h2 := c.2.isLt
      have := f.le (k := c.1.val) (l := c.2.val) (by omega) (by omega)
      simp only [in3, Bool.and_eq_true, decide_eq_true_eq]
      exact this
    · rw [vec_of (l := rsum x) (n := t.length) (by rw [rsum_len, hl]), vec_of (l := rsum t) (n := t.length) (rsum_len t)]
      refine vec_ext fun k hk => ?_
      rw [rs_of ht hk]
      have e : (rsum x).getD k 0 = sm (wd t) (cF x k) := by
        rw [cF_row (hr k hk)]
        unfold rsum
        rw [getD_of _ _ (by rw [List.length_map]; omega), List.getElem_map, getD_of _ _ (by omega)]
      rw [e]; exact f.2.2.2.row k hk
    · rw [vec_of (l := csum x) (n := wd t) (by simp [csum, hw]), vec_of (l := csum t) (n := wd t) (by simp [csum])]
      refine vec_ext fun l hl' => ?_
      rw [cs_of hl', cs_of (by rw [hw]; exact hl'), hl]
      exact f.2.2.2.col l hl'
  · rintro ⟨hn, ⟨hl, hw⟩, ⟨hrs, hcs⟩, ha⟩
    have hrect := num_rect hn
    have hr : ∀ k, k < t.length → (x.getD k []).length = wd t := fun k hk => by rw [← hw]; exact rect_row hrect (by omega)
    refine ⟨h, hl, fun r hr' => ?_, ⟨fun k l hk hl' => ?_, fun k hk => ?_, fun l hl' => ?_, fun k l hk hl' hh => (ha k l hk hl' hh).symm⟩⟩
    · obtain ⟨i, hi, rfl⟩ := List.getElem_of_mem hr'
      have := hr i (by omega)
      rwa [getD_of _ _ hi] at this
    · have hkx : k < x.length := by omega
      have hl2 : l < (x.getD k []).length := by rw [hr k hk]; exact hl'
      have h1 := (num_iff.1 hn).2 (x.getD k []) (by rw [getD_of _ _ hkx]; exact List.getElem_mem _) ((x.getD k []).getD l 0) (by rw [getD_of _ _ hl2]; exact List.getElem_mem _)
      exact (in3_parts.1 h1).1
    · have h1 : (rsum x).getD k 0 = (rsum t).getD k 0 := by rw [hrs]
      rw [rs_of ht hk] at h1
      have hkx : k < x.length := by omega
      rw [← h1, cF_row (hr k hk)]
      unfold rsum
      rw [getD_of (x.map _) _ (by rw [List.length_map]; exact hkx), List.getElem_map, getD_of _ _ hkx]
    · have h1 : (csum x).getD l 0 = (csum t).getD l 0 := by rw [hcs]
      rw [cs_of hl', cs_of (by rw [hw]; exact hl'), hl] at h1
      exact h1
set_option maxRecDepth 100000 in
set_option maxHeartbeats 4000000 in
theorem iFit_is (W : World) (t : Tb) (v : Value) (hv : IsR W v t) (m : Mk) (u : Value) (hu : IsM W u m) (x : Tb) (z : Value) (hz : IsR W z x) (g : Bool) (hg : fitB t m x = g) (w : World) (hb : Below W.heap.size W w) :
    Calls Try.prog 10 #[v, u, z] w (Back (.bool g) W) := by
  have HV := Lib.hid hv
  have HU := Lib.hid hu
  have HZ := Lib.hid hz
  have HG := Lib.hid hg
  obtain ⟨mk, hmk⟩ : ∃ mk, mkOk t m = mk := ⟨_, rfl⟩
  have HMK := Lib.hid hmk
  obtain ⟨A, c, rfl, _, _, _⟩ := id hv
  obtain ⟨Au, cu, rfl, _, _, _⟩ := id hu
  obtain ⟨Az, cz, rfl, _, _, _⟩ := id hz
  have HB := Lib.hid hb
  clear hv hu hz hg hmk hb
  go_enter Try.func10, Try.ntmps10
  go_wp2_with fail
  refine (iFitOf_is W t _ HV.out m _ HU.out mk HMK.out w HB.out).mono ?_
  rintro e w2 ⟨h2, hres⟩
  have hz2 := h2.size
  cases mk
  · rcases hres with ⟨_, rfl⟩ | ⟨hh, _⟩
    · have HE := Lib.hid (show g = false by rw [← HG.out]; exact fit_badmk HMK.out)
      have HB2 := Lib.hid h2
      clear h2
      go_wp2
      go_ret
      exact ⟨by rw [HE.out]; rfl, HB2.out.alloc HB2.out.size _⟩
    · cases hh
  rcases hres with ⟨hh, _⟩ | ⟨_, v', rfl, hm⟩
  · cases hh
  have ht := mk_tab HMK.out
  have HSH := Lib.hid (shp_of HMK.out)
  have HTR := Lib.hid (show rect t = true from rect_all (by simp only [in3, Bool.and_eq_true, decide_eq_true_eq]; have := ht.h1; have := ht.h4; have := ht.w1; have := ht.w4; omega) fun i hi => ht.rlen hi)
  have HTC := Lib.hid (show ∀ y : Pc t.length (wd t), 0 ≤ cellP t y ∧ cellP t y ≤ 396 from fun y => by
    have := ht.cell y.1.isLt y.2.isLt
    have e : cellP t y = cF t y.1.val y.2.val := rfl
    rw [e]; omega)
  obtain ⟨gv, cv, _, _, hvv, _⟩ := Mine.cell hm (i := 0) (j := 0) ht.h1 (by rw [ht.rlen ht.h1]; exact ht.w1)
  subst hvv
  obtain ⟨q, hq⟩ : ∃ q, t.length = q := ⟨_, rfl⟩
  obtain ⟨d, hd⟩ : ∃ d, wd t = d := ⟨_, rfl⟩
  obtain ⟨mq, hmq⟩ : ∃ mq, m.length = mq := ⟨_, rfl⟩
  have HQ := Lib.hid hq
  have HD := Lib.hid hd
  obtain ⟨w3, hw3, b3, hz3, k3⟩ := one_blk w2 #[.int .i64 q, .int .i64 d, .slice (some ⟨gv, 0, none⟩) q cv, .slice Au mq cu] TF
  have HW3 := Lib.hid hw3.symm
  have HM3 := Lib.hid (hm.is.below b3)
  have HK3 := Lib.hid (show ∀ X, Below w3.heap.size w3 X → X.heap[w2.heap.size]? = some (.cells #[.int .i64 q, .int .i64 d, .slice (some ⟨gv, 0, none⟩) q cv, .slice Au mq cu] TF (0, 0)) from fun X h => (h.block _ (by omega)).trans k3)
  have HB3 := Lib.hid (h2.trans (b3.mono h2.size))
  obtain ⟨gn, hgn⟩ : ∃ gn, numOk x 396 = gn := ⟨_, rfl⟩
  have HGN := Lib.hid hgn
  have HZ3 := Lib.hid (HZ.out.below HB3.out)
  have HU3 := Lib.hid (HU.out.below HB3.out)
  rw [hq, hd, hmq]
  rw [hq] at HM3
  rw [hmq] at HU3
  clear h2 hm hw3 b3 hz3 k3 hgn ht hq hd hmq
  go_wp2_with fail
  rw [HW3.out]
  refine (iNum_is w3 x _ HZ3.out 396 gn HGN.out w3 (Below.refl _ _)).mono ?_
  rintro e w4 ⟨rfl, h4⟩
  have hz4 := h4.size
  have HB4 := Lib.hid (HB3.out.trans (h4.mono HB3.out.size))
  cases gn
  · rw [gridV_no]
    have HE := Lib.hid (show g = false by
      rw [← HG.out]
      cases h9 : fitB t m x
      · rfl
      · have := (fit_iff HMK.out).1 h9
        rw [HGN.out] at this; cases this.1)
    clear h4
    go_wp2
    go_ret
    exact ⟨by rw [HE.out]; rfl, HB4.out.alloc HB4.out.size _⟩
  rw [gridV_yes]
  obtain ⟨qx, hqx⟩ : ∃ qx, x.length = qx := ⟨_, rfl⟩
  obtain ⟨dx, hdx⟩ : ∃ dx, wd x = dx := ⟨_, rfl⟩
  have HQX := Lib.hid hqx
  have HDX := Lib.hid hdx
  obtain ⟨w5, hw5, b5, hz5, k5⟩ := one_blk w4 #[.int .i64 qx, .int .i64 dx, .slice Az qx cz] TGI
  have HW5 := Lib.hid hw5.symm
  have HB35 := Lib.hid (h4.trans (b5.mono hz4))
  have HB5 := Lib.hid (HB4.out.trans (b5.mono HB4.out.size))
  obtain ⟨p0, p1, p2, p3⟩ := blkF (HK3.out w5 HB35.out)
  obtain ⟨r0, r1, r2, _, _, _⟩ := blkG3 k5
  have HK5 := Lib.hid (show ∀ X, Below w5.heap.size w5 X → X.heap[w4.heap.size]? = some (.cells #[.int .i64 qx, .int .i64 dx, .slice Az qx cz] TGI (0, 0)) from fun X h => (h.block _ (by omega)).trans k5)
  rw [← HW5.out] at p0 p1 p2 p3 r0 r1 r2
  rw [hqx, hdx]
  clear h4 hw5 b5 hz5 k5 hqx hdx
  by_cases hsz : qx = q ∧ dx = d
  · obtain ⟨rfl, rfl⟩ := hsz
    obtain ⟨gs, hgs⟩ : ∃ gs, (decide (rsum x = rsum t) && decide (csum x = csum t)) = gs := ⟨_, rfl⟩
    have HGS := Lib.hid hgs
    have HZ5 := Lib.hid (HZ3.out.below HB35.out)
    have HM5 := Lib.hid (HM3.out.below HB35.out)
    have HU5 := Lib.hid (HU3.out.below HB35.out)
    have HXR := Lib.hid (num_rect HGN.out)
    have HXC := Lib.hid (show ∀ y : Pc x.length (wd x), 0 ≤ cellP x y ∧ cellP x y ≤ 396 from fun y => by
      have h1 := y.1.isLt
      have h2 : y.2.val < (x.getD y.1.val []).length := by rw [rect_row (num_rect HGN.out) h1]; exact y.2.isLt
      have h9 := (num_iff.1 HGN.out).2 (x.getD y.1.val []) (by rw [getD_of _ _ h1]; exact List.getElem_mem _) ((x.getD y.1.val []).getD y.2.val 0) (by rw [getD_of _ _ h2]; exact List.getElem_mem _)
      exact in3_parts.1 h9)
    rw [HQX.out] at HZ5
    clear hgs
    go_wp2_with fail
    rw [HW5.out]
    clear p0 p1 p2 p3 r0 r1 r2
    refine (by
      have h9 := iSame_is w5 x t _ _ (show IsR w5 (.slice Az qx cz) x from HZ5.out) (show IsR w5 (.slice (some ⟨gv, 0, none⟩) qx cv) t from HM5.out) HXR.out HTR.out HXC.out HTC.out gs HGS.out w5 (Below.refl _ _)
      rw [HQX.out, HDX.out, HQ.out, HD.out] at h9
      exact h9 : Calls Try.prog 32 #[grV qx dx (.slice Az qx cz), grV qx dx (.slice (some ⟨gv, 0, none⟩) qx cv)] w5 (Back (.bool gs) w5)).mono ?_
    rintro e w6 ⟨rfl, h6⟩
    have HB6 := Lib.hid (HB5.out.trans (h6.mono HB5.out.size))
    cases gs
    · have HE := Lib.hid (show g = false by
        rw [← HG.out]
        cases h9 : fitB t m x
        · rfl
        · obtain ⟨_, _, ⟨a1, a2⟩, _⟩ := (fit_iff HMK.out).1 h9
          have := HGS.out
          simp [a1, a2] at this)
      clear h6
      go_wp2
      go_ret
      exact ⟨by rw [HE.out]; rfl, HB6.out⟩
    · obtain ⟨p0, p1, p2, p3⟩ := blkF (HK3.out w6 (HB35.out.trans (h6.mono HB35.out.size)))
      obtain ⟨r0, r1, r2, _, _, _⟩ := blkG3 (HK5.out w6 h6)
      have HZ6 := Lib.hid (HZ5.out.below h6)
      have HM6 := Lib.hid (HM5.out.below h6)
      have HU6 := Lib.hid (HU5.out.below h6)
      have HAG := Lib.hid (show g = true ↔ agr qx dx m t x by
        have h9 := fit_iff (x := x) HMK.out
        have h8 := HGS.out
        simp only [Bool.and_eq_true, decide_eq_true_eq] at h8
        rw [HG.out, HQ.out, HD.out] at h9
        rw [h9]
        exact ⟨fun h => h.2.2.2, fun h => ⟨HGN.out, ⟨HQX.out, HDX.out⟩, h8, h⟩⟩)
      clear h6
      go_wp2_with fail
      refine (iAgr_is w6 t x _ _ HM6.out HZ6.out m _ HU6.out qx dx (by have h9 := HSH.out; rw [HQ.out, HD.out] at h9; exact h9) HQX.out (fun k hk => by rw [rect_row HXR.out (by rw [HQX.out]; exact hk), HDX.out]) g HAG.out w6 (Below.refl _ _)).mono ?_
      rintro e w7 ⟨rfl, h7⟩
      go_wp2
      go_ret
      exact ⟨rfl, HB6.out.trans (h7.mono HB6.out.size)⟩
  · have HE := Lib.hid (show g = false by
      rw [← HG.out]
      cases h9 : fitB t m x
      · rfl
      · obtain ⟨_, ⟨a1, a2⟩, _⟩ := (fit_iff HMK.out).1 h9
        rw [HQX.out, HQ.out] at a1
        rw [HDX.out, HD.out] at a2
        exact absurd ⟨a1, a2⟩ hsz)
    go_wp2
    all_goals (go_ret; exact ⟨by rw [HE.out]; rfl, HB4.out.alloc HB4.out.size _⟩)
end Go.Proofs.Ytdjjkfhdgnlkeaa
