/- The drawing of a table, a mask and a cell. The draws of chapter 13. -/
import Derived.Test.YtdjjkfhdgnlkeaaTDA
import Derived.Test.YtdjjkfhdgnlkeaaTS6
import Derived.Test.YtdjjkfhdgnlkeaaSBA
namespace Go.Proofs.Ytdjjkfhdgnlkeaa
open Go.RowKit
/-- A table and a mask, drawn, and the reader. -/
structure HDr (w0 : World) (R B T U : Nat) (tv mv : Value) (t : Tb) (m : Mk) (q : Nat) (w : World) : Prop where
  tm : Mine w B T tv t
  mm : MineB w T U mv m
  rd : RdN w R q
  gr : w0.grownBy w (some R)
  hR : R < B
  hT : B ≤ T
  h0 : w0.heap.size ≤ B
  hU : T ≤ U
section
variable {w0 w w' : World} {R B T U q : Nat} {tv mv : Value} {t : Tb} {m : Mk}
theorem HDr.pick (h : HDr w0 R B T U tv mv t m q w) (hr : RdN w' R (q + 1)) (hg : w.grownBy w' (some R)) : HDr w0 R B T U tv mv t m (q + 1) w' :=
  ⟨h.tm.grown hg h.hR, h.mm.grown hg (by have := h.hR; have := h.hT; omega), hr, grown_trans h.gr hg, h.hR, h.hT, h.h0, h.hU⟩
theorem HDr.below (h : HDr w0 R B T U tv mv t m q w) (hb : Below w.heap.size w w') : HDr w0 R B T U tv mv t m q w' :=
  ⟨h.tm.below hb, h.mm.below hb, h.rd.keep (hb.mono h.rd.lt), grown_below h.gr hb, h.hR, h.hT, h.h0, h.hU⟩
theorem HDr.more {q' : Nat} (h : HDr w0 R B T U tv mv t m q w) (hq : q ≤ q') : HDr w0 R B T U tv mv t m q' w := ⟨h.tm, h.mm, h.rd.more hq, h.gr, h.hR, h.hT, h.h0, h.hU⟩
theorem HDr.flag (h : HDr w0 R B T U tv mv t m q w) {gi j : Nat} {v : Value} {m' : Mk} (hgi : T ≤ gi ∧ gi < U) (hm : MineB (w.setCell ⟨gi, j, none⟩ v) T U mv m') : HDr w0 R B T U tv mv t m' q (w.setCell ⟨gi, j, none⟩ v) := by
  have hR := h.hR
  have hT := h.hT
  have ne : ∀ k, k ≠ gi → (w.setCell ⟨gi, j, none⟩ v).heap[k]? = w.heap[k]? := fun k hk => Below.heap_setCell w ⟨gi, j, none⟩ v k hk
  refine ⟨h.tm.same (by simp [World.setCell]) fun k _ hk => ne k (by omega), hm, h.rd.setCell (a := ⟨gi, j, none⟩) (by show R < gi; omega) v, ?_, hR, hT, h.h0, h.hU⟩
  have h0 := h.h0
  exact ⟨h.gr.os, h.gr.tape, h.gr.output, by simp [World.setCell]; exact h.gr.size, fun k hk hn => (ne k (by omega)).trans (h.gr.block k hk hn)⟩
end
theorem one_blk9 (w : World) (a : Array Value) (T : TypeId) : ∃ W3, W3 = w.alloc (.cells a T) ∧ Below w.heap.size w W3 ∧ W3.heap.size = w.heap.size + 1 ∧ W3.heap[w.heap.size]? = some (.cells a T (0, 0)) :=
  ⟨_, rfl, (Below.refl _ _).alloc (Nat.le_refl _) _, by simp, heap_alloc_new _ _⟩
theorem Tab.rlenD {t : Tb} (h : Tab t) {k : Nat} (hk : k < t.length) : (t.getD k []).length = wd t := h.len _ (by rw [getD_of _ _ hk]; exact List.getElem_mem _)
theorem results_tmp4 {fn : Func} {t u v x : Tmp} (h : fn.results = #[.tmp t, .tmp u, .tmp v, .tmp x]) (tmps : Array Value) (P : Program) (w : World) :
    (results fn tmps).run P w = .ok (.tuple #[tmps.getD t undef, tmps.getD u undef, tmps.getD v undef, tmps.getD x undef]) w := by
  simp [results, h]
def HidDrawn (R q : Nat) (w : World) (e : Ending) (w' : World) : Prop :=
  ∃ tv mv t m i j T U, e = .returned (.tuple #[tv, mv, .int .i64 i, .int .i64 j]) ∧ HDr w R w.heap.size T U tv mv t m q w' ∧ t.length ≤ 4 ∧ (∀ r ∈ t, r.length ≤ 4) ∧ m.length ≤ 5 ∧ ∀ r ∈ m, r.length ≤ 4
theorem set_len4 {m : Mk} {i j : Nat} (hr : ∀ r ∈ m, r.length ≤ 4) (x : Bool) : ∀ r ∈ m.set i ((m.getD i []).set j x), r.length ≤ 4 := fun r h => by
  rcases List.mem_or_eq_of_mem_set h with h | h
  · exact hr r h
  · rw [h, List.length_set]
    by_cases hi : i < m.length
    · rw [getD_of _ _ hi]; exact hr _ (List.getElem_mem hi)
    · rw [List.getD_eq_getElem?_getD, List.getElem?_eq_none (by omega)]; simp
set_option maxRecDepth 100000 in
set_option maxHeartbeats 8000000 in
theorem hid_any (R q : Nat) (hq : q + 60 < 1000000) (w : World) (hr : RdN w R q) : Calls Try.prog 24 #[.pointer (some ⟨R, 0, none⟩)] w (HidDrawn R (q + 60) w) := by
  have hR := hr.lt
  go_enter Try.func24, Try.ntmps24
  go_wp2_with fail
  refine (tab_any 7 (by omega) (by omega) R q (by omega) _ hr).mono ?_
  rintro e w1 ⟨v, t, rfl, ho1, hl, hrow, hr1, hg1⟩
  have HO1 := Lib.hid ho1
  have HROW := Lib.hid hrow
  have HG1 := Lib.hid hg1
  have hz1 := hg1.size
  clear ho1 hrow hg1 hr
  go_wp2_with fail
  refine (mask_any R (q + 24) (by omega) t v w.heap.size w1.heap.size w1 HO1.out hR hl HROW.out hr1).mono ?_
  rintro e w2 ⟨u, m, rfl, hm2, hml, hmr, hr2, hg2⟩
  have HMR := Lib.hid hmr
  have HH2 := Lib.hid (show HDr w R w.heap.size w1.heap.size w2.heap.size v u t m (q + 48) w2 from ⟨HO1.out.grown hg2 hR, hm2, hr2, grown_trans HG1.out hg2, hR, hz1, Nat.le_refl _, hg2.size⟩)
  obtain ⟨A, c, hv, _, _, _⟩ := HO1.out.is
  subst hv
  obtain ⟨Au, cu, hu, _, _, _⟩ := hm2.is
  subst hu
  obtain ⟨n, hn⟩ : ∃ n, t.length = n := ⟨_, rfl⟩
  obtain ⟨nm, hnm⟩ : ∃ nm, m.length = nm := ⟨_, rfl⟩
  have HN := Lib.hid hn
  have HNM := Lib.hid hnm
  rw [hn] at HH2 hl ⊢
  rw [hnm] at HH2 hml ⊢
  clear hm2 hmr hr1 hr2 hg2 hn hnm HO1 HG1
  obtain ⟨z, hz⟩ : ∃ z, (if (1 : Int) < (n : Int) then (n : Int) else 1) = z := ⟨_, rfl⟩
  have hzb : 1 ≤ z ∧ z ≤ 4 := by split at hz <;> omega
  have HZ := Lib.hid (show 1 ≤ n → z = n by intro h; split at hz <;> omega)
  go_wp2_with fail
  refine (pick_any z (by omega) (by omega) R (q + 48) (by omega) w2 HH2.out.rd).mono ?_
  rintro e w3 ⟨a, rfl, a0, a1, hr3, hg3⟩
  have HH3 := Lib.hid (HH2.out.pick hr3 hg3)
  clear hz hr3 hg3 HH2
  go_wp2_with fail
  refine (pick_any 3 (by omega) (by omega) R (q + 48 + 1) (by omega) w3 HH3.out.rd).mono ?_
  rintro e w4 ⟨b, rfl, b0, b1, hr4, hg4⟩
  have HH4 := Lib.hid (HH3.out.pick hr4 hg4)
  obtain ⟨tt, htt⟩ : ∃ tt, tabOk t = tt := ⟨_, rfl⟩
  have HT := Lib.hid htt
  obtain ⟨mk, hmk⟩ : ∃ mk, mkOk t m = mk := ⟨_, rfl⟩
  have HMK := Lib.hid hmk
  clear hr4 hg4 HH3 htt hmk
  go_wp2_with fail
  refine (sTab_is w4 t _ HH4.out.tm.is tt HT.out _ (Below.refl _ _)).mono ?_
  rintro e w5 ⟨rfl, h5⟩
  have HH5 := Lib.hid (HH4.out.below h5)
  clear h5 HH4
  cases tt
  · have HE := Lib.hid (show mk = false by rw [← HMK.out, mkOk, HT.out]; rfl)
    go_wp2_with fail
    refine (sMask_is w5 t _ HH5.out.tm.is m _ HH5.out.mm.is mk HMK.out _ (Below.refl _ _)).mono ?_
    rintro e w6 ⟨rfl, h6⟩
    have HH6 := Lib.hid (HH5.out.below h6)
    clear h6 HH5
    rw [HE.out]
    go_wp2_with fail
    refine (pick_any 24 (by omega) (by omega) R (q + 48 + 1 + 1) (by omega) w6 HH6.out.rd).mono ?_
    rintro e w9 ⟨x9, rfl, x90, x91, hr9, hg9⟩
    have HH9 := Lib.hid (HH6.out.pick hr9 hg9)
    clear hr9 hg9
    by_cases hx9 : x9 = 0
    · subst hx9
      obtain ⟨wl, hwl, bl, hzl, kl⟩ := one_blk9 w9 #[.int .i64 (-1), .int .i64 4] 3
      have HWl := Lib.hid hwl.symm
      have HHl := Lib.hid (HH9.out.below bl)
      have HKl := Lib.hid kl
      clear hwl bl hzl kl
      go_wp2_with fail
      rw [HWl.out]
      refine (pick_any 2 (by omega) (by omega) R (q + 48 + 1 + 1 + 1) (by omega) wl HHl.out.rd).mono ?_
      rintro e wm ⟨y9, rfl, y90, y91, hrm, hgm⟩
      have HHm := Lib.hid (HHl.out.pick hrm hgm)
      have hRl : w9.heap.size ≠ R := by have := HH9.out.rd.lt; omega
      have km : wm.heap[w9.heap.size]? = some (.cells #[.int .i64 (-1), .int .i64 4] 3 (0, 0)) := (hgm.block _ (Array.getElem?_eq_some_iff.1 HKl.out).1 (fun e => by injection e; omega)).trans HKl.out
      have km0 : wm.cell? ⟨w9.heap.size, 0, none⟩ = some (.int .i64 (-1)) := cell_of_row _ _ 0 _ _ _ km
      have km1 : wm.cell? ⟨w9.heap.size, 1, none⟩ = some (.int .i64 4) := cell_of_row _ _ 1 _ _ _ km
      clear hrm hgm km
      rcases (show y9 = 0 ∨ y9 = 1 by omega) with rfl | rfl
      · go_wp2
        refine bodyPost_ret (results_tmp4 rfl _ _ _) rfl ?_
        exact ⟨_, _, t, m, _, _, w1.heap.size, w2.heap.size, rfl, HHm.out.more (by omega), by rw [HN.out]; exact hl, HROW.out, by rw [HNM.out]; exact hml, HMR.out⟩
      · go_wp2
        refine bodyPost_ret (results_tmp4 rfl _ _ _) rfl ?_
        exact ⟨_, _, t, m, _, _, w1.heap.size, w2.heap.size, rfl, HHm.out.more (by omega), by rw [HN.out]; exact hl, HROW.out, by rw [HNM.out]; exact hml, HMR.out⟩
    · have hx9' : (x9 == 0) = false := by rw [beq_eq_false_iff_ne]; exact hx9
      go_wp2
      refine bodyPost_ret (results_tmp4 rfl _ _ _) rfl ?_
      exact ⟨_, _, t, m, _, _, w1.heap.size, w2.heap.size, rfl, HH9.out.more (by omega), by rw [HN.out]; exact hl, HROW.out, by rw [HNM.out]; exact hml, HMR.out⟩
  · have ht := tab_iff.1 HT.out
    obtain ⟨g, c', hv', _, _, hcell⟩ := HH5.out.tm.heads ht.h1
    obtain ⟨A0, d0, hc0⟩ := hcell 0 ht.h1
    injection hv' with hv1 hv2 hv3
    subst hv1
    have hln : (t.getD 0 []).length = wd t := ht.rlenD ht.h1
    obtain ⟨d, hd⟩ : ∃ d, wd t = d := ⟨_, rfl⟩
    have HD := Lib.hid hd
    rw [hln, hd] at hc0
    have hd1 : 1 ≤ d := by have := ht.w1; omega
    have hd4 : d ≤ 4 := by have := ht.w4; omega
    have hn1 : 0 < n := by have := ht.h1; have := HN.out; omega
    have hni : (0 : Int) < (n : Int) := by omega
    have HZN := Lib.hid (HZ.out (by omega))
    clear hv2 hv3 hcell hln hd ht
    go_wp2_with fail
    refine (pick_any d (by omega) (by omega) R (q + 48 + 1 + 1) (by omega) w5 HH5.out.rd).mono ?_
    rintro e w6 ⟨b', rfl, b'0, b'1, hr6, hg6⟩
    have HH6 := Lib.hid (HH5.out.pick hr6 hg6)
    clear hr6 hg6 HH5 hc0
    go_wp2_with fail
    refine (sMask_is w6 t _ HH6.out.tm.is m _ HH6.out.mm.is mk HMK.out _ (Below.refl _ _)).mono ?_
    rintro e w7 ⟨rfl, h7⟩
    have HH7 := Lib.hid (HH6.out.below h7)
    clear h7 HH6
    cases mk
    · skip
      go_wp2_with fail
      refine (pick_any 24 (by omega) (by omega) R (q + 48 + 1 + 1 + 1) (by omega) w7 HH7.out.rd).mono ?_
      rintro e w9 ⟨x9, rfl, x90, x91, hr9, hg9⟩
      have HH9 := Lib.hid (HH7.out.pick hr9 hg9)
      clear hr9 hg9
      by_cases hx9 : x9 = 0
      · subst hx9
        obtain ⟨wl, hwl, bl, hzl, kl⟩ := one_blk9 w9 #[.int .i64 (-1), .int .i64 4] 3
        have HWl := Lib.hid hwl.symm
        have HHl := Lib.hid (HH9.out.below bl)
        have HKl := Lib.hid kl
        clear hwl bl hzl kl
        go_wp2_with fail
        rw [HWl.out]
        refine (pick_any 2 (by omega) (by omega) R (q + 48 + 1 + 1 + 1 + 1) (by omega) wl HHl.out.rd).mono ?_
        rintro e wm ⟨y9, rfl, y90, y91, hrm, hgm⟩
        have HHm := Lib.hid (HHl.out.pick hrm hgm)
        have hRl : w9.heap.size ≠ R := by have := HH9.out.rd.lt; omega
        have km : wm.heap[w9.heap.size]? = some (.cells #[.int .i64 (-1), .int .i64 4] 3 (0, 0)) := (hgm.block _ (Array.getElem?_eq_some_iff.1 HKl.out).1 (fun e => by injection e; omega)).trans HKl.out
        have km0 : wm.cell? ⟨w9.heap.size, 0, none⟩ = some (.int .i64 (-1)) := cell_of_row _ _ 0 _ _ _ km
        have km1 : wm.cell? ⟨w9.heap.size, 1, none⟩ = some (.int .i64 4) := cell_of_row _ _ 1 _ _ _ km
        clear hrm hgm km
        rcases (show y9 = 0 ∨ y9 = 1 by omega) with rfl | rfl
        · go_wp2
          refine bodyPost_ret (results_tmp4 rfl _ _ _) rfl ?_
          exact ⟨_, _, t, m, _, _, w1.heap.size, w2.heap.size, rfl, HHm.out.more (by omega), by rw [HN.out]; exact hl, HROW.out, by rw [HNM.out]; exact hml, HMR.out⟩
        · go_wp2
          refine bodyPost_ret (results_tmp4 rfl _ _ _) rfl ?_
          exact ⟨_, _, t, m, _, _, w1.heap.size, w2.heap.size, rfl, HHm.out.more (by omega), by rw [HN.out]; exact hl, HROW.out, by rw [HNM.out]; exact hml, HMR.out⟩
      · have hx9' : (x9 == 0) = false := by rw [beq_eq_false_iff_ne]; exact hx9
        go_wp2
        refine bodyPost_ret (results_tmp4 rfl _ _ _) rfl ?_
        exact ⟨_, _, t, m, _, _, w1.heap.size, w2.heap.size, rfl, HH9.out.more (by omega), by rw [HN.out]; exact hl, HROW.out, by rw [HNM.out]; exact hml, HMR.out⟩
    · go_wp2_with fail
      refine (pick_any 3 (by omega) (by omega) R (q + 48 + 1 + 1 + 1) (by omega) w7 HH7.out.rd).mono ?_
      rintro e w8 ⟨p8, rfl, p80, p81, hr8, hg8⟩
      have HH8 := Lib.hid (HH7.out.pick hr8 hg8)
      clear hr8 hg8 HH7
      by_cases hp8 : 0 < p8
      · obtain ⟨a', rfl⟩ := Int.eq_ofNat_of_zero_le a0
        obtain ⟨c8, rfl⟩ := Int.eq_ofNat_of_zero_le b'0
        have hpar := mk_parts.1 HMK.out
        have hmn : m.length = n := by rw [hpar.2.1, HN.out]
        have hnn : nm = n := by rw [← HNM.out, hmn]
        have han : a' < n := by have := HZN.out; omega
        have hcd : c8 < d := by omega
        have hrl : (m.getD a' []).length = d := by
          rw [← HD.out]; exact hpar.2.2 _ (by rw [getD_of _ _ (by rw [hmn]; exact han)]; exact List.getElem_mem _)
        obtain ⟨g8, c9, gi, ci, hu8, m0, _, hgi, _, m1, mf, hset⟩ := HH8.out.mm.cell (i := a') (j := c8) (by rw [hmn]; exact han) (by rw [hrl]; exact hcd)
        injection hu8 with hu1 hu2 hu3
        subst hu1
        rw [hrl] at m0
        have hai : (a' : Int) < (nm : Int) := by omega
        have hci : (c8 : Int) < (d : Int) := by omega
        have HHs := Lib.hid (HH8.out.flag hgi (hset true))
        obtain ⟨ws, hws⟩ : ∃ ws, ws = w8.setCell ⟨gi, c8, none⟩ (.bool true) := ⟨_, rfl⟩
        have HWs := Lib.hid hws.symm
        rw [← hws] at HHs
        have HMR2 := Lib.hid (set_len4 (i := a') (j := c8) HMR.out true)
        clear hpar hu2 hu3 hset hws hmn hnn hrl hgi
        go_wp2_with fail
        rw [HWs.out]
        refine (pick_any 24 (by omega) (by omega) R (q + 48 + 1 + 1 + 1 + 1) (by omega) ws HHs.out.rd).mono ?_
        rintro e w9 ⟨x9, rfl, x90, x91, hr9, hg9⟩
        have HH9 := Lib.hid (HHs.out.pick hr9 hg9)
        clear hr9 hg9
        by_cases hx9 : x9 = 0
        · subst hx9
          obtain ⟨wl, hwl, bl, hzl, kl⟩ := one_blk9 w9 #[.int .i64 (-1), .int .i64 4] 3
          have HWl := Lib.hid hwl.symm
          have HHl := Lib.hid (HH9.out.below bl)
          have HKl := Lib.hid kl
          clear hwl bl hzl kl
          go_wp2_with fail
          rw [HWl.out]
          refine (pick_any 2 (by omega) (by omega) R (q + 48 + 1 + 1 + 1 + 1 + 1) (by omega) wl HHl.out.rd).mono ?_
          rintro e wm ⟨y9, rfl, y90, y91, hrm, hgm⟩
          have HHm := Lib.hid (HHl.out.pick hrm hgm)
          have hRl : w9.heap.size ≠ R := by have := HH9.out.rd.lt; omega
          have km : wm.heap[w9.heap.size]? = some (.cells #[.int .i64 (-1), .int .i64 4] 3 (0, 0)) := (hgm.block _ (Array.getElem?_eq_some_iff.1 HKl.out).1 (fun e => by injection e; omega)).trans HKl.out
          have km0 : wm.cell? ⟨w9.heap.size, 0, none⟩ = some (.int .i64 (-1)) := cell_of_row _ _ 0 _ _ _ km
          have km1 : wm.cell? ⟨w9.heap.size, 1, none⟩ = some (.int .i64 4) := cell_of_row _ _ 1 _ _ _ km
          clear hrm hgm km
          rcases (show y9 = 0 ∨ y9 = 1 by omega) with rfl | rfl
          · go_wp2
            refine bodyPost_ret (results_tmp4 rfl _ _ _) rfl ?_
            exact ⟨_, _, t, _, _, _, w1.heap.size, w2.heap.size, rfl, HHm.out.more (by omega), by rw [HN.out]; exact hl, HROW.out, by rw [List.length_set, HNM.out]; exact hml, HMR2.out⟩
          · go_wp2
            refine bodyPost_ret (results_tmp4 rfl _ _ _) rfl ?_
            exact ⟨_, _, t, _, _, _, w1.heap.size, w2.heap.size, rfl, HHm.out.more (by omega), by rw [HN.out]; exact hl, HROW.out, by rw [List.length_set, HNM.out]; exact hml, HMR2.out⟩
        · have hx9' : (x9 == 0) = false := by rw [beq_eq_false_iff_ne]; exact hx9
          go_wp2
          refine bodyPost_ret (results_tmp4 rfl _ _ _) rfl ?_
          exact ⟨_, _, t, _, _, _, w1.heap.size, w2.heap.size, rfl, HH9.out.more (by omega), by rw [HN.out]; exact hl, HROW.out, by rw [List.length_set, HNM.out]; exact hml, HMR2.out⟩
      · have hp8' : ¬ 0 < p8 := hp8
        go_wp2_with fail
        refine (pick_any 24 (by omega) (by omega) R (q + 48 + 1 + 1 + 1 + 1) (by omega) w8 HH8.out.rd).mono ?_
        rintro e w9 ⟨x9, rfl, x90, x91, hr9, hg9⟩
        have HH9 := Lib.hid (HH8.out.pick hr9 hg9)
        clear hr9 hg9
        by_cases hx9 : x9 = 0
        · subst hx9
          obtain ⟨wl, hwl, bl, hzl, kl⟩ := one_blk9 w9 #[.int .i64 (-1), .int .i64 4] 3
          have HWl := Lib.hid hwl.symm
          have HHl := Lib.hid (HH9.out.below bl)
          have HKl := Lib.hid kl
          clear hwl bl hzl kl
          go_wp2_with fail
          rw [HWl.out]
          refine (pick_any 2 (by omega) (by omega) R (q + 48 + 1 + 1 + 1 + 1 + 1) (by omega) wl HHl.out.rd).mono ?_
          rintro e wm ⟨y9, rfl, y90, y91, hrm, hgm⟩
          have HHm := Lib.hid (HHl.out.pick hrm hgm)
          have hRl : w9.heap.size ≠ R := by have := HH9.out.rd.lt; omega
          have km : wm.heap[w9.heap.size]? = some (.cells #[.int .i64 (-1), .int .i64 4] 3 (0, 0)) := (hgm.block _ (Array.getElem?_eq_some_iff.1 HKl.out).1 (fun e => by injection e; omega)).trans HKl.out
          have km0 : wm.cell? ⟨w9.heap.size, 0, none⟩ = some (.int .i64 (-1)) := cell_of_row _ _ 0 _ _ _ km
          have km1 : wm.cell? ⟨w9.heap.size, 1, none⟩ = some (.int .i64 4) := cell_of_row _ _ 1 _ _ _ km
          clear hrm hgm km
          rcases (show y9 = 0 ∨ y9 = 1 by omega) with rfl | rfl
          · go_wp2
            refine bodyPost_ret (results_tmp4 rfl _ _ _) rfl ?_
            exact ⟨_, _, t, m, _, _, w1.heap.size, w2.heap.size, rfl, HHm.out.more (by omega), by rw [HN.out]; exact hl, HROW.out, by rw [HNM.out]; exact hml, HMR.out⟩
          · go_wp2
            refine bodyPost_ret (results_tmp4 rfl _ _ _) rfl ?_
            exact ⟨_, _, t, m, _, _, w1.heap.size, w2.heap.size, rfl, HHm.out.more (by omega), by rw [HN.out]; exact hl, HROW.out, by rw [HNM.out]; exact hml, HMR.out⟩
        · have hx9' : (x9 == 0) = false := by rw [beq_eq_false_iff_ne]; exact hx9
          go_wp2
          refine bodyPost_ret (results_tmp4 rfl _ _ _) rfl ?_
          exact ⟨_, _, t, m, _, _, w1.heap.size, w2.heap.size, rfl, HH9.out.more (by omega), by rw [HN.out]; exact hl, HROW.out, by rw [HNM.out]; exact hml, HMR.out⟩
end Go.Proofs.Ytdjjkfhdgnlkeaa
namespace Go.Proofs.Ytdjjkfhdgnlkeaa
open Go.RowKit
/-- What is drawn: a table, a mask, a cell; a table and a mask; a table, a mask and rows. -/
def DrawnHid (w : World) (e : Ending) (w' : World) : Prop := ∃ tv mv t m i j, e = .returned (.tuple #[tv, mv, .int .i64 i, .int .i64 j]) ∧ IsR w' tv t ∧ IsM w' mv m ∧ t.length ≤ 4 ∧ (∀ r ∈ t, r.length ≤ 4) ∧ m.length ≤ 5 ∧ (∀ r ∈ m, r.length ≤ 4) ∧ Below w.heap.size w w'
def DrawnHid2 (w : World) (e : Ending) (w' : World) : Prop := ∃ tv mv t m, e = .returned (.tuple #[tv, mv]) ∧ IsR w' tv t ∧ IsM w' mv m ∧ t.length ≤ 4 ∧ (∀ r ∈ t, r.length ≤ 4) ∧ m.length ≤ 5 ∧ (∀ r ∈ m, r.length ≤ 4) ∧ Below w.heap.size w w'
def DrawnFit (w : World) (e : Ending) (w' : World) : Prop := ∃ tv mv xv t m x, e = .returned (.tuple #[tv, mv, xv]) ∧ IsR w' tv t ∧ IsM w' mv m ∧ IsR w' xv x ∧ t.length ≤ 4 ∧ (∀ r ∈ t, r.length ≤ 4) ∧ m.length ≤ 5 ∧ (∀ r ∈ m, r.length ≤ 4) ∧ x.length ≤ 4 ∧ (∀ r ∈ x, r.length ≤ 4) ∧ Below w.heap.size w w'
set_option maxHeartbeats 1000000 in
theorem dBoundHigh_any (A : Option Addr) (n c : Nat) (hnc : n ≤ c) (hn : n ≤ maxLen) (w : World) (hb : Bytes w w.heap.size A n) : Calls Try.prog 19 #[.slice A n c] w (DrawnHid w) := by
  go_enter Try.func19, Try.ntmps19
  go_wp2_with fail
  refine (l6Open_any A n c hnc hn _ hb).mono ?_
  rintro e w1 ⟨rfl, ⟨n', c', hr⟩, hb1⟩
  have hr1 : RdN w1 w.heap.size 0 := ⟨_, _, _, _, hr, Nat.le_refl _⟩
  clear hr hb
  go_wp2_with fail
  refine (hid_any w.heap.size 0 (by omega) w1 hr1).mono ?_
  rintro e w2 ⟨tv, mv, t, m, i, j, T, U, rfl, hh, h1, h2, h3, h4⟩
  have hlt := hr1.lt
  go_wp2
  refine bodyPost_ret (results_tmp4 rfl _ _ _) rfl ?_
  exact ⟨tv, mv, t, m, i, j, rfl, hh.tm.is, hh.mm.is, h1, h2, h3, h4, hb1.trans (grown_old hh.gr (Nat.le_refl _) (by omega))⟩
end Go.Proofs.Ytdjjkfhdgnlkeaa
