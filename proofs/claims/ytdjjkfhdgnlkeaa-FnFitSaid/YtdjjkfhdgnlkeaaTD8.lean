/- The draw of tables that fit. -/
import Derived.Test.YtdjjkfhdgnlkeaaTDB
import Derived.Test.YtdjjkfhdgnlkeaaSBA
import Derived.Deep.Cut
import Derived.Deep.CutRange
namespace Go.Proofs.Ytdjjkfhdgnlkeaa
open Go.RowKit
/-- The first B blocks of a world. -/
def cutW (w : World) (B : Nat) : World := { w with heap := w.heap.extract 0 B }
theorem cutW_size {w : World} {B : Nat} (hB : B ≤ w.heap.size) : (cutW w B).heap.size = B := by simp [cutW]; omega
theorem cutW_block {w : World} {B k : Nat} (hk : k < B) : (cutW w B).heap[k]? = w.heap[k]? := by
  simp only [cutW, Array.getElem?_extract, Nat.zero_add, Nat.sub_zero]
  split
  · rfl
  · rw [Array.getElem?_eq_none (by omega)]
theorem cutW_below {w : World} {B : Nat} (hB : B ≤ w.heap.size) : Below B (cutW w B) w := ⟨rfl, rfl, rfl, by rw [cutW_size hB]; exact hB, fun k hk => (cutW_block hk).symm⟩
theorem MineB.cut {w : World} {B T U : Nat} {v : Value} {m : Mk} (h : MineB w T U v m) (hU : U ≤ B) (hB : B ≤ w.heap.size) : MineB (cutW w B) T U v m := by
  obtain ⟨h1, h2, hs, h3, h4⟩ := h
  refine ⟨by rw [cutW_size hB]; exact hU, h2, hs, h3.same fun k e => cutW_block (by have := h2 k e; omega), h4.same fun k _ hk _ => cutW_block (by omega)⟩
theorem Mine.cut {w : World} {B T Bx : Nat} {v : Value} {t : Tb} (h : Mine w B T v t) (hT : T ≤ Bx) (hB : Bx ≤ w.heap.size) : Mine (cutW w Bx) B T v t := by
  obtain ⟨h1, h2, hs, h3, h4⟩ := h
  refine ⟨by rw [cutW_size hB]; exact hT, h2, hs, h3.same fun k e => cutW_block (by have := h2 k e; omega), h4.same fun k _ hk _ => cutW_block (by omega)⟩
theorem RdN.cut {w : World} {R q Bx : Nat} (h : RdN w R q) (hR : R < Bx) : RdN (cutW w Bx) R q := by
  obtain ⟨A, n, c, p, hh, hp⟩ := h
  exact ⟨A, n, c, p, ⟨(cutW_block hR).trans hh.1, hh.2.1, hh.2.2.1, hh.2.2.2.keep fun b o hb => World.cell?_of_block (w := w) (a := ⟨b, o, none⟩) (cutW_block (by show b < Bx; omega))⟩, hp⟩
theorem HDr.low {w0 w w' : World} {R B T U q Bx : Nat} {tv mv : Value} {t : Tb} {m : Mk} (h : HDr w0 R B T U tv mv t m q w) (hBx : Bx ≤ w.heap.size) (hU : U ≤ Bx) (hb : Below (cutW w Bx).heap.size (cutW w Bx) w') : HDr w0 R B T U tv mv t m q w' := by
  have hR := h.hR
  have hT := h.hT
  have hTU := h.hU
  have h0 := h.h0
  have hz := cutW_size hBx
  exact ⟨(h.tm.cut (by omega) hBx).below hb, (h.mm.cut hU hBx).below hb, (h.rd.cut (by omega)).keep (hb.mono (by omega)),
    ⟨hb.os.trans h.gr.os, hb.tape.trans h.gr.tape, hb.output.trans h.gr.output, by have := hb.size; omega, fun k hk hn => ((hb.block k (by omega)).trans (cutW_block (by omega))).trans (h.gr.block k hk hn)⟩, hR, hT, h0, hTU⟩
theorem mk_parts1 {t : Tb} {m : Mk} (h : mkOk t m = true) : tabOk t = true := tab_iff.2 (mkT h)
/-- The rows that are drawn: as large as the table, and near it. -/
structure XOk (t x : Tb) : Prop where
  len : x.length = t.length
  row : ∀ k, k < t.length → (x.getD k []).length = (t.getD k []).length
  bd : tabOk t = true → ∀ k l, k < t.length → l < wd t → 0 ≤ cF x k l ∧ cF x k l ≤ 396
theorem xok_self (t : Tb) : XOk t t := ⟨rfl, fun _ _ => rfl, fun ht k l hk hl => by have := (tab_iff.1 ht).cell hk hl; omega⟩
theorem xok_fit {t x : Tb} {m : Mk} (ht : tabOk t = true) (hs : Shp x m t.length (wd t)) (hf : FitF t.length (wd t) (hF m) (cF t) (cF x)) : XOk t x :=
  ⟨hs.tl, fun k hk => by rw [hs.tr k hk, (tab_iff.1 ht).rlenD hk], fun _ k l hk hl => ⟨hf.pos k l hk hl, Int.le_trans (fit_row hf hk hl) ((tab_iff.1 ht).row_le hk)⟩⟩
theorem xok_rows {t x : Tb} (h : XOk t x) (h4 : ∀ r ∈ t, r.length ≤ 4) : ∀ r ∈ x, r.length ≤ 4 := fun r hr => by
  obtain ⟨i, hi, rfl⟩ := List.getElem_of_mem hr
  have hit : i < t.length := by rw [← h.len]; exact hi
  have h1 := h.row i hit
  rw [getD_of _ _ hi, getD_of _ _ hit] at h1
  rw [h1]; exact h4 _ (List.getElem_mem hit)
theorem xok_set {t x : Tb} (h : XOk t x) (v : Int) : (∀ r ∈ t, r.length ≤ 4) → ∀ r ∈ x.set 0 ((x.getD 0 []).set 0 v), r.length ≤ 4 := fun h4 r hr => by
  rcases List.mem_or_eq_of_mem_set hr with h2 | h2
  · exact xok_rows h h4 r h2
  · rw [h2, List.length_set]
    by_cases hi : 0 < x.length
    · rw [getD_of _ _ hi]; exact xok_rows h h4 _ (List.getElem_mem hi)
    · rw [List.getD_eq_getElem?_getD, List.getElem?_eq_none (by omega)]; simp
theorem undrew1 {w w' : World} {R : Nat} (h : w.drew.grownBy w' (some R)) : w.grownBy w' (some R) := ⟨h.os, h.tape, h.output, h.size, h.block⟩
set_option maxRecDepth 100000 in
set_option maxHeartbeats 16000000 in
theorem dFit_any (A : Option Addr) (n c : Nat) (hnc : n ≤ c) (hn : n ≤ maxLen) (w : World) (hb : Bytes w w.heap.size A n) : Calls Try.prog 9 #[.slice A n c] w (DrawnFit w) := by
  go_enter Try.func9, Try.ntmps9
  go_wp2_with fail
  refine (l6Open_any A n c hnc hn _ hb).mono ?_
  rintro e w1 ⟨rfl, ⟨n', c', hr⟩, hb1⟩
  have hr1 : RdN w1 w.heap.size 0 := ⟨_, _, _, _, hr, Nat.le_refl _⟩
  have HB1 := Lib.hid hb1
  clear hr hb hb1
  go_wp2_with fail
  refine (hid_any w.heap.size 0 (by omega) w1 hr1).mono ?_
  rintro e w2 ⟨tv, mv, t, m, i, j, T, U, rfl, hh, hl, hrow, hml, hmr⟩
  have HLT := Lib.hid hr1.lt
  have HROW := Lib.hid hrow
  have HMR := Lib.hid hmr
  have HH2 := Lib.hid hh
  have hUw := hh.mm.1
  obtain ⟨At, ct, hv, _, _, _⟩ := hh.tm.is
  subst hv
  obtain ⟨Au, cu, hu, _, _, _⟩ := hh.mm.is
  subst hu
  clear hh hrow hmr hr1
  go_wp2_with fail
  refine (sCopy_is w2 t _ HH2.out.tm.is (by omega) (fun r hr => by have := HROW.out r hr; omega) w2 (Below.refl _ _)).mono ?_
  rintro e w3 ⟨xv, rfl, ho3, h3⟩
  obtain ⟨Bx, hBx⟩ : ∃ Bx, w2.heap.size = Bx := ⟨_, rfl⟩
  obtain ⟨Tx, hTx⟩ : ∃ Tx, w3.heap.size = Tx := ⟨_, rfl⟩
  have hz3 := h3.size
  have HH3 := Lib.hid (HH2.out.below h3)
  have HX3B := Lib.hid (show Bx ≤ w3.heap.size by omega)
  rw [hBx, hTx] at ho3
  have HX3 := Lib.hid ho3
  have HUB := Lib.hid (show U ≤ Bx by omega)
  have HRB := Lib.hid (show w.heap.size < Bx by have := HLT.out; have := HH2.out.gr.size; omega)
  have HX8 := Lib.hid (show U ≤ Bx ∧ T ≤ Bx ∧ T ≤ w2.heap.size from ⟨by omega, by have := HH2.out.hU; omega, by have := HH2.out.hU; omega⟩)
  obtain ⟨Ax, cx, hxv, _, _, _⟩ := ho3.is
  subst hxv
  have HXOK := Lib.hid (xok_self t)
  obtain ⟨ok, hok⟩ : ∃ ok, bOk t m i j = ok := ⟨_, rfl⟩
  have HOK := Lib.hid hok
  clear ho3 hBx hTx hok h3
  go_wp2_with fail
  refine (sOk_is w3 t _ HH3.out.tm.is m _ HH3.out.mm.is i j ok HOK.out w3 (Below.refl _ _)).mono ?_
  rintro e w4 ⟨rfl, h4⟩
  have HH4 := Lib.hid (HH3.out.below h4)
  have HX4 := Lib.hid (HX3.out.below h4)
  have HX4B := Lib.hid (show Bx ≤ w4.heap.size by have := h4.size; have := HX3B.out; omega)
  clear h4
  cases ok
  · skip
    go_wp2_with fail
    refine (pick_any 8 (by omega) (by omega) w.heap.size (0 + 60) (by omega) w4 HH4.out.rd).mono ?_
    rintro e wa ⟨xa, rfl, xa0, xa1, hra, hga⟩
    have HHa := Lib.hid (HH4.out.pick hra hga)
    have HXa := Lib.hid (HX4.out.grown hga HRB.out)
    clear hra hga
    by_cases hxa : xa = 0
    · subst hxa
      obtain ⟨tt9, htt9⟩ : ∃ tt, tabOk t = tt := ⟨_, rfl⟩
      have HT9 := Lib.hid htt9
      clear htt9
      go_wp2_with fail
      refine (sTab_is wa t _ HHa.out.tm.is tt9 HT9.out _ (Below.refl _ _)).mono ?_
      rintro e wb ⟨rfl, hb9⟩
      have HHb := Lib.hid (HHa.out.below hb9)
      have HXb := Lib.hid (HXa.out.below hb9)
      clear hb9 HHa HXa
      cases tt9
      · go_wp2
        refine bodyPost_ret (results_tmp3 rfl _ _ _) rfl ?_
        exact ⟨_, _, _, t, m, t, rfl, HHb.out.tm.is, HHb.out.mm.is, HXb.out.is, hl, HROW.out, hml, HMR.out, by rw [HXOK.out.len]; exact hl, xok_rows HXOK.out HROW.out, HB1.out.trans (grown_old HHb.out.gr (Nat.le_refl _) (by have := HLT.out; omega))⟩
      · have ht9 := tab_iff.1 HT9.out
        have hx1 : 0 < (t).length := by rw [HXOK.out.len]; exact ht9.h1
        have hx2 : ((t).getD 0 []).length = wd t := by rw [HXOK.out.row 0 ht9.h1, ht9.rlenD ht9.h1]
        obtain ⟨d9, hd9⟩ : ∃ d9, wd t = d9 := ⟨_, rfl⟩
        obtain ⟨n9, hn9⟩ : ∃ n9, (t).length = n9 := ⟨_, rfl⟩
        have hd1 : 1 ≤ d9 := by have := ht9.w1; omega
        have hbd := HXOK.out.bd HT9.out 0 0 ht9.h1 (by have := ht9.w1; omega)
        obtain ⟨g9, c9, gi9, ci9, hv9, k0, ⟨hgB, hgT⟩, ⟨hgi, hgiT⟩, hgne, k1, kf, hset⟩ := HXb.out.cell (i := 0) (j := 0) hx1 (by rw [hx2, hd9]; omega)
        rw [hx2, hd9] at k0
        rw [hn9] at hv9
        injection hv9 with hv1 hv2 hv3
        subst hv1
        obtain ⟨y9, hy9⟩ : ∃ y9, cF (t) 0 0 = y9 := ⟨_, rfl⟩
        have hyy : ((t).getD 0 []).getD 0 0 = y9 := hy9
        have HYY := Lib.hid hyy
        rw [hyy] at k1
        rw [hy9] at hbd
        have hTX := HXb.out.1
        have HK := Lib.hid k0
        have HRb := Lib.hid HHb.out.rd
        have HN9 := Lib.hid (show n9 ≤ 4 by rw [← hn9, HXOK.out.len]; exact hl)
        have hn0 : (0 : Int) < (t.length : Int) := by have := ht9.h1; omega
        have hn0' : 0 < t.length := by have := ht9.h1; omega
        have hd0 : (0 : Int) < (d9 : Int) := by omega
        have hd0' : 0 < d9 := by omega
        have hRBx := HRB.out
        have hX8 := HX8.out
        clear hv2 hv3 hset hyy hy9 hx1 hx2 hd9 hn9 ht9
        go_wp2
        go_region_with (
          go_at_call 28
          refine (pick_any 3 (by omega) (by omega) w.heap.size (0 + 60 + 1) (by omega) _ (show RdN wb.drew w.heap.size (0 + 60 + 1) from HRb.out)).mono ?_
          rintro e w9 ⟨p9, rfl, p90, p91, hr9, hg9⟩
          obtain ⟨k0', k1', kf', hset9⟩ := HXb.out.cellX (X := w9) HK.out (i := 0) (j := 0) (by rw [HXOK.out.len]; have := (tab_iff.1 HT9.out).h1; omega) (by rw [HXOK.out.row 0 (tab_iff.1 HT9.out).h1, (tab_iff.1 HT9.out).rlenD (tab_iff.1 HT9.out).h1]; have := (tab_iff.1 HT9.out).w1; omega) (undrew1 hg9).size (fun b hb1 hb2 => (undrew1 hg9).block b (Nat.lt_of_lt_of_le hb2 hTX) (fun e => by injection e; omega))
          rw [show ((t).getD 0 []).getD 0 0 = y9 from HYY.out] at k1'
          have HH9 := Lib.hid (HHb.out.pick hr9 (undrew1 hg9))
          have HST := Lib.hid hset9
          have hw1 : IntKind.i64.wrap (y9 + p9) = y9 + p9 := by rw [IntKind.wrap_i64] <;> omega
          have hw2 : IntKind.i64.wrap (y9 + p9 - 1) = y9 + p9 - 1 := by rw [IntKind.wrap_i64] <;> omega
          clear hg9 hset9 hr9)
        all_goals
          have HX9 := Lib.hid (HST.out (y9 + p9 - 1))
          have HB9 := Lib.hid ((grown_old HH9.out.gr (Nat.le_refl _) (by have := HLT.out; omega)).setCell (p := ⟨gi9, 0, none⟩) (by show w.heap.size ≤ gi9; omega) (.int .i64 (y9 + p9 - 1)))
          have HTM := Lib.hid (HH9.out.tm.same (w' := w9.setCell ⟨gi9, 0, none⟩ (.int .i64 (y9 + p9 - 1))) (by simp [World.setCell]) fun k _ hk => Below.heap_setCell w9 ⟨gi9, 0, none⟩ _ k (by show k ≠ gi9; omega))
          have HMM := Lib.hid (HH9.out.mm.same (w' := w9.setCell ⟨gi9, 0, none⟩ (.int .i64 (y9 + p9 - 1))) (by simp [World.setCell]) fun k _ hk => Below.heap_setCell w9 ⟨gi9, 0, none⟩ _ k (by show k ≠ gi9; omega))
          clear k0 k1 kf k0' k1' kf' hw1 hw2
          go_wp2
          refine bodyPost_ret (results_tmp3 rfl _ _ _) rfl ?_
          exact ⟨_, _, _, t, m, _, rfl, HTM.out.is, HMM.out.is, HX9.out.is, hl, HROW.out, hml, HMR.out, by rw [List.length_set, HXOK.out.len]; exact hl, xok_set HXOK.out _ HROW.out, HB1.out.trans HB9.out⟩
    · have hxa' : (xa == 0) = false := by rw [beq_eq_false_iff_ne]; exact hxa
      go_wp2
      refine bodyPost_ret (results_tmp3 rfl _ _ _) rfl ?_
      exact ⟨_, _, _, t, m, t, rfl, HHa.out.tm.is, HHa.out.mm.is, HXa.out.is, hl, HROW.out, hml, HMR.out, by rw [HXOK.out.len]; exact hl, xok_rows HXOK.out HROW.out, HB1.out.trans (grown_old HHa.out.gr (Nat.le_refl _) (by have := HLT.out; omega))⟩
  obtain ⟨hmk, hi0, hiq, hj0, hjd⟩ := bOk_iff.1 HOK.out
  obtain ⟨a, rfl⟩ := Int.eq_ofNat_of_zero_le hi0
  obtain ⟨b, rfl⟩ := Int.eq_ofNat_of_zero_le hj0
  have ht := mkT hmk
  have hS := shp_of hmk
  have HS := Lib.hid hS
  have HTT := Lib.hid (mk_parts1 hmk)
  have HP := Lib.hid ht.posF
  have HR := Lib.hid (fun k hk => ht.row_le (k := k) hk)
  have haq : a < t.length := by omega
  have hbd : b < wd t := by omega
  have HAQ := Lib.hid haq
  have HBD := Lib.hid hbd
  have HML := Lib.hid hS.ml
  obtain ⟨g4, c4, gi4, ci4, hu4, m0, _, _, _, m1, _, _⟩ := HH4.out.mm.cell (i := a) (j := b) (by rw [hS.ml]; exact haq) (by rw [hS.mr a haq]; exact hbd)
  injection hu4 with hu1 hu2 hu3
  subst hu1
  rw [hS.mr a haq] at m0
  obtain ⟨fl, hfl⟩ : ∃ fl, (m.getD a []).getD b false = fl := ⟨_, rfl⟩
  rw [hfl] at m1
  have HFL0 := Lib.hid (show hF m a b = fl from hfl)
  have hai : (a : Int) < (m.length : Int) := by have := hS.ml; omega
  have hbi : (b : Int) < (wd t : Int) := by omega
  have hai2 : (a : Int) < (t.length : Int) := by omega
  clear hmk hi0 hiq hj0 hjd ht hu2 hu3 hfl
  cases fl
  · clear haq hbd hS
    go_wp2_with fail
    refine (pick_any 8 (by omega) (by omega) w.heap.size (0 + 60) (by omega) w4 HH4.out.rd).mono ?_
    rintro e wa ⟨xa, rfl, xa0, xa1, hra, hga⟩
    have HHa := Lib.hid (HH4.out.pick hra hga)
    have HXa := Lib.hid (HX4.out.grown hga HRB.out)
    clear hra hga
    by_cases hxa : xa = 0
    · subst hxa
      obtain ⟨tt9, htt9⟩ : ∃ tt, tabOk t = tt := ⟨_, rfl⟩
      have HT9 := Lib.hid htt9
      clear htt9
      go_wp2_with fail
      refine (sTab_is wa t _ HHa.out.tm.is tt9 HT9.out _ (Below.refl _ _)).mono ?_
      rintro e wb ⟨rfl, hb9⟩
      have HHb := Lib.hid (HHa.out.below hb9)
      have HXb := Lib.hid (HXa.out.below hb9)
      clear hb9 HHa HXa
      cases tt9
      · go_wp2
        refine bodyPost_ret (results_tmp3 rfl _ _ _) rfl ?_
        exact ⟨_, _, _, t, m, t, rfl, HHb.out.tm.is, HHb.out.mm.is, HXb.out.is, hl, HROW.out, hml, HMR.out, by rw [HXOK.out.len]; exact hl, xok_rows HXOK.out HROW.out, HB1.out.trans (grown_old HHb.out.gr (Nat.le_refl _) (by have := HLT.out; omega))⟩
      · have ht9 := tab_iff.1 HT9.out
        have hx1 : 0 < (t).length := by rw [HXOK.out.len]; exact ht9.h1
        have hx2 : ((t).getD 0 []).length = wd t := by rw [HXOK.out.row 0 ht9.h1, ht9.rlenD ht9.h1]
        obtain ⟨d9, hd9⟩ : ∃ d9, wd t = d9 := ⟨_, rfl⟩
        obtain ⟨n9, hn9⟩ : ∃ n9, (t).length = n9 := ⟨_, rfl⟩
        have hd1 : 1 ≤ d9 := by have := ht9.w1; omega
        have hbd := HXOK.out.bd HT9.out 0 0 ht9.h1 (by have := ht9.w1; omega)
        obtain ⟨g9, c9, gi9, ci9, hv9, k0, ⟨hgB, hgT⟩, ⟨hgi, hgiT⟩, hgne, k1, kf, hset⟩ := HXb.out.cell (i := 0) (j := 0) hx1 (by rw [hx2, hd9]; omega)
        rw [hx2, hd9] at k0
        rw [hn9] at hv9
        injection hv9 with hv1 hv2 hv3
        subst hv1
        obtain ⟨y9, hy9⟩ : ∃ y9, cF (t) 0 0 = y9 := ⟨_, rfl⟩
        have hyy : ((t).getD 0 []).getD 0 0 = y9 := hy9
        have HYY := Lib.hid hyy
        rw [hyy] at k1
        rw [hy9] at hbd
        have hTX := HXb.out.1
        have HK := Lib.hid k0
        have HRb := Lib.hid HHb.out.rd
        have HN9 := Lib.hid (show n9 ≤ 4 by rw [← hn9, HXOK.out.len]; exact hl)
        have hn0 : (0 : Int) < (t.length : Int) := by have := ht9.h1; omega
        have hn0' : 0 < t.length := by have := ht9.h1; omega
        have hd0 : (0 : Int) < (d9 : Int) := by omega
        have hd0' : 0 < d9 := by omega
        have hRBx := HRB.out
        have hX8 := HX8.out
        clear hv2 hv3 hset hyy hy9 hx1 hx2 hd9 hn9 ht9
        go_wp2
        go_region_with (
          go_at_call 28
          refine (pick_any 3 (by omega) (by omega) w.heap.size (0 + 60 + 1) (by omega) _ (show RdN wb.drew w.heap.size (0 + 60 + 1) from HRb.out)).mono ?_
          rintro e w9 ⟨p9, rfl, p90, p91, hr9, hg9⟩
          obtain ⟨k0', k1', kf', hset9⟩ := HXb.out.cellX (X := w9) HK.out (i := 0) (j := 0) (by rw [HXOK.out.len]; have := (tab_iff.1 HT9.out).h1; omega) (by rw [HXOK.out.row 0 (tab_iff.1 HT9.out).h1, (tab_iff.1 HT9.out).rlenD (tab_iff.1 HT9.out).h1]; have := (tab_iff.1 HT9.out).w1; omega) (undrew1 hg9).size (fun b hb1 hb2 => (undrew1 hg9).block b (Nat.lt_of_lt_of_le hb2 hTX) (fun e => by injection e; omega))
          rw [show ((t).getD 0 []).getD 0 0 = y9 from HYY.out] at k1'
          have HH9 := Lib.hid (HHb.out.pick hr9 (undrew1 hg9))
          have HST := Lib.hid hset9
          have hw1 : IntKind.i64.wrap (y9 + p9) = y9 + p9 := by rw [IntKind.wrap_i64] <;> omega
          have hw2 : IntKind.i64.wrap (y9 + p9 - 1) = y9 + p9 - 1 := by rw [IntKind.wrap_i64] <;> omega
          clear hg9 hset9 hr9)
        all_goals
          have HX9 := Lib.hid (HST.out (y9 + p9 - 1))
          have HB9 := Lib.hid ((grown_old HH9.out.gr (Nat.le_refl _) (by have := HLT.out; omega)).setCell (p := ⟨gi9, 0, none⟩) (by show w.heap.size ≤ gi9; omega) (.int .i64 (y9 + p9 - 1)))
          have HTM := Lib.hid (HH9.out.tm.same (w' := w9.setCell ⟨gi9, 0, none⟩ (.int .i64 (y9 + p9 - 1))) (by simp [World.setCell]) fun k _ hk => Below.heap_setCell w9 ⟨gi9, 0, none⟩ _ k (by show k ≠ gi9; omega))
          have HMM := Lib.hid (HH9.out.mm.same (w' := w9.setCell ⟨gi9, 0, none⟩ (.int .i64 (y9 + p9 - 1))) (by simp [World.setCell]) fun k _ hk => Below.heap_setCell w9 ⟨gi9, 0, none⟩ _ k (by show k ≠ gi9; omega))
          clear k0 k1 kf k0' k1' kf' hw1 hw2
          go_wp2
          refine bodyPost_ret (results_tmp3 rfl _ _ _) rfl ?_
          exact ⟨_, _, _, t, m, _, rfl, HTM.out.is, HMM.out.is, HX9.out.is, hl, HROW.out, hml, HMR.out, by rw [List.length_set, HXOK.out.len]; exact hl, xok_set HXOK.out _ HROW.out, HB1.out.trans HB9.out⟩
    · have hxa' : (xa == 0) = false := by rw [beq_eq_false_iff_ne]; exact hxa
      go_wp2
      refine bodyPost_ret (results_tmp3 rfl _ _ _) rfl ?_
      exact ⟨_, _, _, t, m, t, rfl, HHa.out.tm.is, HHa.out.mm.is, HXa.out.is, hl, HROW.out, hml, HMR.out, by rw [HXOK.out.len]; exact hl, xok_rows HXOK.out HROW.out, HB1.out.trans (grown_old HHa.out.gr (Nat.le_refl _) (by have := HLT.out; omega))⟩
  have HFL := Lib.hid (show hF m a b = true from HFL0.out)
  have hpos := HP.out a b haq hbd
  obtain ⟨g5, c5, gi5, ci5, hx5, k0, _, _, _, k1, _, _⟩ := HX4.out.cell (i := a) (j := b) haq (by rw [hS.tr a haq]; exact hbd)
  injection hx5 with hx1 hx2 hx3
  subst hx1
  rw [hS.tr a haq] at k0
  obtain ⟨p, hp⟩ : ∃ p, cF t a b = p := ⟨_, rfl⟩
  have hpp : (t.getD a []).getD b 0 = p := hp
  rw [hpp] at k1
  rw [hp] at hpos
  have HPV := Lib.hid hp
  have HK0 := Lib.hid k0
  have HK1 := Lib.hid k1
  have HG5 := Lib.hid (show w.heap.size < g5 ∧ w.heap.size < gi5 ∨ True from .inr trivial)
  clear hx2 hx3 hp hpp hS k0 k1 HG5
  go_upto_if 35 with fail
  go_cut [] from 11 (fun wx => ∃ q9 x9, HDr w1 w.heap.size w1.heap.size T U (.slice At t.length ct) (.slice (some ⟨g4, 0, none⟩) m.length cu) t m q9 wx ∧ Mine wx Bx Tx (.slice (some ⟨g5, 0, none⟩) t.length cx) x9 ∧ XOk t x9 ∧ q9 ≤ 100)
  case rest =>
    obtain ⟨q9, x9, hh9, hx9, hxo9, hq9⟩ := hcut
    have HH9 := Lib.hid hh9
    have HX9 := Lib.hid hx9
    have HXO9 := Lib.hid hxo9
    clear hh9 hx9 hxo9 m0 m1
    go_wp2_with fail
    refine (pick_any 8 (by omega) (by omega) w.heap.size (q9) (by omega) wc HH9.out.rd).mono ?_
    rintro e wa ⟨xa, rfl, xa0, xa1, hra, hga⟩
    have HHa := Lib.hid (HH9.out.pick hra hga)
    have HXa := Lib.hid (HX9.out.grown hga HRB.out)
    clear hra hga
    by_cases hxa : xa = 0
    · subst hxa
      obtain ⟨tt9, htt9⟩ : ∃ tt, tabOk t = tt := ⟨_, rfl⟩
      have HT9 := Lib.hid htt9
      clear htt9
      go_wp2_with fail
      refine (sTab_is wa t _ HHa.out.tm.is tt9 HT9.out _ (Below.refl _ _)).mono ?_
      rintro e wb ⟨rfl, hb9⟩
      have HHb := Lib.hid (HHa.out.below hb9)
      have HXb := Lib.hid (HXa.out.below hb9)
      clear hb9 HHa HXa
      cases tt9
      · go_wp2
        refine bodyPost_ret (results_tmp3 rfl _ _ _) rfl ?_
        exact ⟨_, _, _, t, m, x9, rfl, HHb.out.tm.is, HHb.out.mm.is, HXb.out.is, hl, HROW.out, hml, HMR.out, by rw [HXO9.out.len]; exact hl, xok_rows HXO9.out HROW.out, HB1.out.trans (grown_old HHb.out.gr (Nat.le_refl _) (by have := HLT.out; omega))⟩
      · have ht9 := tab_iff.1 HT9.out
        have hx1 : 0 < (x9).length := by rw [HXO9.out.len]; exact ht9.h1
        have hx2 : ((x9).getD 0 []).length = wd t := by rw [HXO9.out.row 0 ht9.h1, ht9.rlenD ht9.h1]
        obtain ⟨d9, hd9⟩ : ∃ d9, wd t = d9 := ⟨_, rfl⟩
        obtain ⟨n9, hn9⟩ : ∃ n9, (x9).length = n9 := ⟨_, rfl⟩
        have hd1 : 1 ≤ d9 := by have := ht9.w1; omega
        have hbd := HXO9.out.bd HT9.out 0 0 ht9.h1 (by have := ht9.w1; omega)
        obtain ⟨g9, c9, gi9, ci9, hv9, k0, ⟨hgB, hgT⟩, ⟨hgi, hgiT⟩, hgne, k1, kf, hset⟩ := HXb.out.cell (i := 0) (j := 0) hx1 (by rw [hx2, hd9]; omega)
        rw [hx2, hd9] at k0
        rw [hn9] at hv9
        injection hv9 with hv1 hv2 hv3
        injection hv1 with hv1
        injection hv1 with hv1 _ _
        subst hv1
        obtain ⟨y9, hy9⟩ : ∃ y9, cF (x9) 0 0 = y9 := ⟨_, rfl⟩
        have hyy : ((x9).getD 0 []).getD 0 0 = y9 := hy9
        have HYY := Lib.hid hyy
        rw [hyy] at k1
        rw [hy9] at hbd
        have hTX := HXb.out.1
        have HK := Lib.hid k0
        have HRb := Lib.hid HHb.out.rd
        have HN9 := Lib.hid (show n9 ≤ 4 by rw [← hn9, HXO9.out.len]; exact hl)
        have hn0 : (0 : Int) < (t.length : Int) := by have := ht9.h1; omega
        have hn0' : 0 < t.length := by have := ht9.h1; omega
        have hd0 : (0 : Int) < (d9 : Int) := by omega
        have hd0' : 0 < d9 := by omega
        have hRBx := HRB.out
        have hX8 := HX8.out
        clear hv2 hv3 hset hyy hy9 hx1 hx2 hd9 hn9 ht9
        go_wp2
        go_region_with (
          go_at_call 28
          refine (pick_any 3 (by omega) (by omega) w.heap.size (q9 + 1) (by omega) _ (show RdN wb.drew w.heap.size (q9 + 1) from HRb.out)).mono ?_
          rintro e w9 ⟨p9, rfl, p90, p91, hr9, hg9⟩
          obtain ⟨k0', k1', kf', hset9⟩ := HXb.out.cellX (X := w9) HK.out (i := 0) (j := 0) (by rw [HXO9.out.len]; have := (tab_iff.1 HT9.out).h1; omega) (by rw [HXO9.out.row 0 (tab_iff.1 HT9.out).h1, (tab_iff.1 HT9.out).rlenD (tab_iff.1 HT9.out).h1]; have := (tab_iff.1 HT9.out).w1; omega) (undrew1 hg9).size (fun b hb1 hb2 => (undrew1 hg9).block b (Nat.lt_of_lt_of_le hb2 hTX) (fun e => by injection e; omega))
          rw [show ((x9).getD 0 []).getD 0 0 = y9 from HYY.out] at k1'
          have HH9 := Lib.hid (HHb.out.pick hr9 (undrew1 hg9))
          have HST := Lib.hid hset9
          have hw1 : IntKind.i64.wrap (y9 + p9) = y9 + p9 := by rw [IntKind.wrap_i64] <;> omega
          have hw2 : IntKind.i64.wrap (y9 + p9 - 1) = y9 + p9 - 1 := by rw [IntKind.wrap_i64] <;> omega
          clear hg9 hset9 hr9)
        all_goals
          have HX9 := Lib.hid (HST.out (y9 + p9 - 1))
          have HB9 := Lib.hid ((grown_old HH9.out.gr (Nat.le_refl _) (by have := HLT.out; omega)).setCell (p := ⟨gi9, 0, none⟩) (by show w.heap.size ≤ gi9; omega) (.int .i64 (y9 + p9 - 1)))
          have HTM := Lib.hid (HH9.out.tm.same (w' := w9.setCell ⟨gi9, 0, none⟩ (.int .i64 (y9 + p9 - 1))) (by simp [World.setCell]) fun k _ hk => Below.heap_setCell w9 ⟨gi9, 0, none⟩ _ k (by show k ≠ gi9; omega))
          have HMM := Lib.hid (HH9.out.mm.same (w' := w9.setCell ⟨gi9, 0, none⟩ (.int .i64 (y9 + p9 - 1))) (by simp [World.setCell]) fun k _ hk => Below.heap_setCell w9 ⟨gi9, 0, none⟩ _ k (by show k ≠ gi9; omega))
          clear k0 k1 kf k0' k1' kf' hw1 hw2
          go_wp2
          refine bodyPost_ret (results_tmp3 rfl _ _ _) rfl ?_
          exact ⟨_, _, _, t, m, _, rfl, HTM.out.is, HMM.out.is, HX9.out.is, hl, HROW.out, hml, HMR.out, by rw [List.length_set, HXO9.out.len]; exact hl, xok_set HXO9.out _ HROW.out, HB1.out.trans HB9.out⟩
    · have hxa' : (xa == 0) = false := by rw [beq_eq_false_iff_ne]; exact hxa
      go_wp2
      refine bodyPost_ret (results_tmp3 rfl _ _ _) rfl ?_
      exact ⟨_, _, _, t, m, x9, rfl, HHa.out.tm.is, HHa.out.mm.is, HXa.out.is, hl, HROW.out, hml, HMR.out, by rw [HXO9.out.len]; exact hl, xok_rows HXO9.out HROW.out, HB1.out.trans (grown_old HHa.out.gr (Nat.le_refl _) (by have := HLT.out; omega))⟩
  case first =>
    go_wp2_with fail
    refine (pick_any 2 (by omega) (by omega) w.heap.size (0 + 60) (by omega) w4 HH4.out.rd).mono ?_
    rintro e w5 ⟨x5, rfl, x50, x51, hr5, hg5⟩
    have HH5 := Lib.hid (HH4.out.pick hr5 hg5)
    have HX5 := Lib.hid (HX4.out.grown hg5 HRB.out)
    have HX5B := Lib.hid (show Bx ≤ w5.heap.size by have := hg5.size; have := HX4B.out; omega)
    obtain ⟨g6, c6, gi6, ci6, hx6, k0, _, _, _, k1, _, _⟩ := HX5.out.cell (i := a) (j := b) haq (by rw [HS.out.tr a haq]; exact hbd)
    injection hx6 with hx1 hx2 hx3
    injection hx1 with hx1
    injection hx1 with hx1 _ _
    subst hx1
    rw [HS.out.tr a haq] at k0
    have hpp : (t.getD a []).getD b 0 = p := HPV.out
    rw [hpp] at k1
    clear hx2 hx3 hpp hr5 hg5 HK0 HK1 m0 m1 haq hbd
    by_cases hx5 : x5 = 0
    · subst hx5
      clear k0 k1
      go_wp2_with fail
      refine (sChange_is (cutW w5 Bx) t _ m _ (HH5.out.mm.cut HUB.out HX5B.out).is t.length (wd t) HS.out a b HAQ.out HBD.out true HP.out HR.out HFL.out (by have h9 := hpos; rw [← HPV.out] at h9; show 0 ≤ cF t a b + 1; omega) w5 (by rw [cutW_size HX5B.out]; exact cutW_below HX5B.out) Bx Tx (by rw [cutW_size HX5B.out]; exact Nat.le_refl _) HX5.out).mono ?_
      rintro e w6 ⟨r6, t6, rfl, hm6, hs6, hb6, hr6⟩
      have HH6 := Lib.hid (HH5.out.low HX5B.out HUB.out hb6)
      have HX6 := Lib.hid (show Mine w6 Bx Tx (.slice (some ⟨g5, 0, none⟩) t.length cx) t6 from hm6)
      have HX6B := Lib.hid (show Bx ≤ w6.heap.size by have := hb6.size; rw [cutW_size HX5B.out] at this; exact this)
      have HS6 := Lib.hid hs6
      have HF6 := Lib.hid (show FitF t.length (wd t) (hF m) (cF t) (cF t6) by
        rcases hr6 with ⟨_, h6, _⟩ | ⟨_, h6, _⟩
        · rw [h6]; exact FitF.refl HP.out
        · exact h6)
      have HXO6 := Lib.hid (xok_fit HTT.out HS6.out HF6.out)
      clear hm6 hs6 hb6 hr6
      cases r6
      · skip
        go_wp2_with fail
        go_meet
        case rel => exact ⟨0 + 60 + 1, t6, HH6.out, HX6.out, HXO6.out, by omega⟩
      · go_wp2_with fail
        refine (pick_any 2 (by omega) (by omega) w.heap.size (0 + 60 + 1) (by omega) w6 HH6.out.rd).mono ?_
        rintro e w7 ⟨x7, rfl, x70, x71, hr7, hg7⟩
        have HH7 := Lib.hid (HH6.out.pick hr7 hg7)
        have HX7 := Lib.hid (HX6.out.grown hg7 HRB.out)
        have HX7B := Lib.hid (show Bx ≤ w7.heap.size by have := hg7.size; have := HX6B.out; omega)
        clear hr7 hg7
        by_cases hx7 : x7 = 0
        · subst hx7
          go_wp2_with fail
          refine (sChange_is (cutW w7 Bx) t6 _ m _ (HH7.out.mm.cut HUB.out HX7B.out).is t.length (wd t) HS6.out a b HAQ.out HBD.out true HF6.out.pos (fun k hk => by rw [HF6.out.row k hk]; exact HR.out k hk) HFL.out (by have := HF6.out.pos a b HAQ.out HBD.out; show 0 ≤ cF t6 a b + 1; omega) w7 (by rw [cutW_size HX7B.out]; exact cutW_below HX7B.out) Bx Tx (by rw [cutW_size HX7B.out]; exact Nat.le_refl _) HX7.out).mono ?_
          rintro e w8 ⟨r8, t8, rfl, hm8, hs8, hb8, hr8⟩
          have HH8 := Lib.hid (HH7.out.low HX7B.out HUB.out hb8)
          have HX8' := Lib.hid (show Mine w8 Bx Tx (.slice (some ⟨g5, 0, none⟩) t.length cx) t8 from hm8)
          have HF8 := Lib.hid (show FitF t.length (wd t) (hF m) (cF t) (cF t8) by
            rcases hr8 with ⟨_, h6, _⟩ | ⟨_, h6, _⟩
            · rw [h6]; exact HF6.out
            · exact HF6.out.trans h6)
          have HXO8 := Lib.hid (xok_fit HTT.out hs8 HF8.out)
          clear hm8 hs8 hb8 hr8
          go_wp2_with fail
          go_meet
          case rel => exact ⟨0 + 60 + 1 + 1, t8, HH8.out, HX8'.out, HXO8.out, by omega⟩
        · have hx7' : (x7 == 0) = false := by rw [beq_eq_false_iff_ne]; exact hx7
          go_wp2_with fail
          go_meet
          case rel => exact ⟨0 + 60 + 1 + 1, t6, HH7.out, HX7.out, HXO6.out, by omega⟩
    · have hx5' : (x5 == 0) = false := by rw [beq_eq_false_iff_ne]; exact hx5
      by_cases hp0 : p = 0
      · have HP0 := Lib.hid hp0
        subst hp0
        go_wp2_with fail
        clear k0 k1
        refine (sChange_is (cutW w5 Bx) t _ m _ (HH5.out.mm.cut HUB.out HX5B.out).is t.length (wd t) HS.out a b HAQ.out HBD.out true HP.out HR.out HFL.out (by have h9 := HPV.out; show 0 ≤ cF t a b + 1; omega) w5 (by rw [cutW_size HX5B.out]; exact cutW_below HX5B.out) Bx Tx (by rw [cutW_size HX5B.out]; exact Nat.le_refl _) HX5.out).mono ?_
        rintro e w6 ⟨r6, t6, rfl, hm6, hs6, hb6, hr6⟩
        have HH6 := Lib.hid (HH5.out.low HX5B.out HUB.out hb6)
        have HX6 := Lib.hid (show Mine w6 Bx Tx (.slice (some ⟨g5, 0, none⟩) t.length cx) t6 from hm6)
        have HX6B := Lib.hid (show Bx ≤ w6.heap.size by have := hb6.size; rw [cutW_size HX5B.out] at this; exact this)
        have HS6 := Lib.hid hs6
        have HF6 := Lib.hid (show FitF t.length (wd t) (hF m) (cF t) (cF t6) by
          rcases hr6 with ⟨_, h6, _⟩ | ⟨_, h6, _⟩
          · rw [h6]; exact FitF.refl HP.out
          · exact h6)
        have HXO6 := Lib.hid (xok_fit HTT.out HS6.out HF6.out)
        clear hm6 hs6 hb6 hr6
        cases r6
        · skip
          go_wp2_with fail
          go_meet
          case rel => exact ⟨0 + 60 + 1, t6, HH6.out, HX6.out, HXO6.out, by omega⟩
        · go_wp2_with fail
          refine (pick_any 2 (by omega) (by omega) w.heap.size (0 + 60 + 1) (by omega) w6 HH6.out.rd).mono ?_
          rintro e w7 ⟨x7, rfl, x70, x71, hr7, hg7⟩
          have HH7 := Lib.hid (HH6.out.pick hr7 hg7)
          have HX7 := Lib.hid (HX6.out.grown hg7 HRB.out)
          have HX7B := Lib.hid (show Bx ≤ w7.heap.size by have := hg7.size; have := HX6B.out; omega)
          clear hr7 hg7
          by_cases hx7 : x7 = 0
          · subst hx7
            go_wp2_with fail
            refine (sChange_is (cutW w7 Bx) t6 _ m _ (HH7.out.mm.cut HUB.out HX7B.out).is t.length (wd t) HS6.out a b HAQ.out HBD.out true HF6.out.pos (fun k hk => by rw [HF6.out.row k hk]; exact HR.out k hk) HFL.out (by have := HF6.out.pos a b HAQ.out HBD.out; show 0 ≤ cF t6 a b + 1; omega) w7 (by rw [cutW_size HX7B.out]; exact cutW_below HX7B.out) Bx Tx (by rw [cutW_size HX7B.out]; exact Nat.le_refl _) HX7.out).mono ?_
            rintro e w8 ⟨r8, t8, rfl, hm8, hs8, hb8, hr8⟩
            have HH8 := Lib.hid (HH7.out.low HX7B.out HUB.out hb8)
            have HX8' := Lib.hid (show Mine w8 Bx Tx (.slice (some ⟨g5, 0, none⟩) t.length cx) t8 from hm8)
            have HF8 := Lib.hid (show FitF t.length (wd t) (hF m) (cF t) (cF t8) by
              rcases hr8 with ⟨_, h6, _⟩ | ⟨_, h6, _⟩
              · rw [h6]; exact HF6.out
              · exact HF6.out.trans h6)
            have HXO8 := Lib.hid (xok_fit HTT.out hs8 HF8.out)
            clear hm8 hs8 hb8 hr8
            go_wp2_with fail
            go_meet
            case rel => exact ⟨0 + 60 + 1 + 1, t8, HH8.out, HX8'.out, HXO8.out, by omega⟩
          · have hx7' : (x7 == 0) = false := by rw [beq_eq_false_iff_ne]; exact hx7
            go_wp2_with fail
            go_meet
            case rel => exact ⟨0 + 60 + 1 + 1, t6, HH7.out, HX7.out, HXO6.out, by omega⟩
      · have hp0' : (p == 0) = false := by rw [beq_eq_false_iff_ne]; exact hp0
        go_wp2_with fail
        clear k0 k1
        refine (sChange_is (cutW w5 Bx) t _ m _ (HH5.out.mm.cut HUB.out HX5B.out).is t.length (wd t) HS.out a b HAQ.out HBD.out false HP.out HR.out HFL.out (by have h9 := HPV.out; show 0 ≤ cF t a b + (-1); omega) w5 (by rw [cutW_size HX5B.out]; exact cutW_below HX5B.out) Bx Tx (by rw [cutW_size HX5B.out]; exact Nat.le_refl _) HX5.out).mono ?_
        rintro e w6 ⟨r6, t6, rfl, hm6, hs6, hb6, hr6⟩
        have HH6 := Lib.hid (HH5.out.low HX5B.out HUB.out hb6)
        have HX6 := Lib.hid (show Mine w6 Bx Tx (.slice (some ⟨g5, 0, none⟩) t.length cx) t6 from hm6)
        have HX6B := Lib.hid (show Bx ≤ w6.heap.size by have := hb6.size; rw [cutW_size HX5B.out] at this; exact this)
        have HS6 := Lib.hid hs6
        have HF6 := Lib.hid (show FitF t.length (wd t) (hF m) (cF t) (cF t6) by
          rcases hr6 with ⟨_, h6, _⟩ | ⟨_, h6, _⟩
          · rw [h6]; exact FitF.refl HP.out
          · exact h6)
        have HXO6 := Lib.hid (xok_fit HTT.out HS6.out HF6.out)
        clear hm6 hs6 hb6 hr6
        cases r6
        · skip
          go_wp2_with fail
          go_meet
          case rel => exact ⟨0 + 60 + 1, t6, HH6.out, HX6.out, HXO6.out, by omega⟩
        · go_wp2_with fail
          refine (pick_any 2 (by omega) (by omega) w.heap.size (0 + 60 + 1) (by omega) w6 HH6.out.rd).mono ?_
          rintro e w7 ⟨x7, rfl, x70, x71, hr7, hg7⟩
          have HH7 := Lib.hid (HH6.out.pick hr7 hg7)
          have HX7 := Lib.hid (HX6.out.grown hg7 HRB.out)
          have HX7B := Lib.hid (show Bx ≤ w7.heap.size by have := hg7.size; have := HX6B.out; omega)
          clear hr7 hg7
          by_cases hx7 : x7 = 0
          · subst hx7
            go_wp2_with fail
            refine (sChange_is (cutW w7 Bx) t6 _ m _ (HH7.out.mm.cut HUB.out HX7B.out).is t.length (wd t) HS6.out a b HAQ.out HBD.out true HF6.out.pos (fun k hk => by rw [HF6.out.row k hk]; exact HR.out k hk) HFL.out (by have := HF6.out.pos a b HAQ.out HBD.out; show 0 ≤ cF t6 a b + 1; omega) w7 (by rw [cutW_size HX7B.out]; exact cutW_below HX7B.out) Bx Tx (by rw [cutW_size HX7B.out]; exact Nat.le_refl _) HX7.out).mono ?_
            rintro e w8 ⟨r8, t8, rfl, hm8, hs8, hb8, hr8⟩
            have HH8 := Lib.hid (HH7.out.low HX7B.out HUB.out hb8)
            have HX8' := Lib.hid (show Mine w8 Bx Tx (.slice (some ⟨g5, 0, none⟩) t.length cx) t8 from hm8)
            have HF8 := Lib.hid (show FitF t.length (wd t) (hF m) (cF t) (cF t8) by
              rcases hr8 with ⟨_, h6, _⟩ | ⟨_, h6, _⟩
              · rw [h6]; exact HF6.out
              · exact HF6.out.trans h6)
            have HXO8 := Lib.hid (xok_fit HTT.out hs8 HF8.out)
            clear hm8 hs8 hb8 hr8
            go_wp2_with fail
            go_meet
            case rel => exact ⟨0 + 60 + 1 + 1, t8, HH8.out, HX8'.out, HXO8.out, by omega⟩
          · have hx7' : (x7 == 0) = false := by rw [beq_eq_false_iff_ne]; exact hx7
            go_wp2_with fail
            go_meet
            case rel => exact ⟨0 + 60 + 1 + 1, t6, HH7.out, HX7.out, HXO6.out, by omega⟩
end Go.Proofs.Ytdjjkfhdgnlkeaa
