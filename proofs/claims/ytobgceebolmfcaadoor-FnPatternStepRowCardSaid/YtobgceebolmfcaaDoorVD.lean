/- The draws of chapter 14. -/
import Derived.Test.YtobgceebolmfcaaDoorTDB
import Derived.Test.YtobgceebolmfcaaDoorVSA
namespace Go.Proofs.YtobgceebolmfcaaDoor
open Go.RowKit
theorem HDr.to {w0 w w' : World} {R B T U q q' : Nat} {tv mv : Value} {t : Tb} {m : Mk} (h : HDr w0 R B T U tv mv t m q w) (hr : RdN w' R q') (hg : w.grownBy w' (some R)) : HDr w0 R B T U tv mv t m q' w' :=
  ⟨h.tm.grown hg h.hR, h.mm.grown hg (by have := h.hR; have := h.hT; omega), hr, grown_trans h.gr hg, h.hR, h.hT, h.h0, h.hU⟩
def SafeN (R q : Nat) (w : World) (e : Ending) (w' : World) : Prop := ∃ n : Int, e = .returned (.int .i64 n) ∧ (-1 ≤ n ∧ n ≤ 100) ∧ RdN w' R q ∧ w.grownBy w' (some R)
set_option maxHeartbeats 2000000 in
theorem lSafe_any (R q : Nat) (hq : q + 4 < 1000000) (w : World) (hr : RdN w R q) : Calls Tryd.prog 40 #[.pointer (some ⟨R, 0, none⟩)] w (SafeN R (q + 4) w) := by
  have hR := hr.lt
  go_enter Tryd.func40, Tryd.ntmps40
  go_wp2_with fail
  refine (pick_any 30 (by omega) (by omega) R q (by omega) w hr).mono ?_
  rintro e w3 ⟨a, rfl, a0, a1, hr3, hg3⟩
  have hz3 := hg3.size
  clear hr
  have HG3 := Lib.hid hg3
  clear hg3
  by_cases hx9 : a = 0
  · subst hx9
    obtain ⟨wl, hwl, bl, hzl, kl⟩ := one_blk9 w3 #[.int .i64 (-1), .int .i64 100] 3
    have HWl := Lib.hid hwl.symm
    have hrl : RdN wl R (q + 1) := hr3.keep (bl.mono hr3.lt)
    have HGl := Lib.hid (grown_below HG3.out bl)
    have HKl := Lib.hid kl
    clear hwl bl hzl kl hr3 HG3
    go_wp2_with fail
    rw [HWl.out]
    refine (pick_any 2 (by omega) (by omega) R (q + 1) (by omega) wl hrl).mono ?_
    rintro e wm ⟨y9, rfl, y90, y91, hrm, hgm⟩
    have hRl : w3.heap.size ≠ R := by omega
    have km : wm.heap[w3.heap.size]? = some (.cells #[.int .i64 (-1), .int .i64 100] 3 (0, 0)) := (hgm.block _ (Array.getElem?_eq_some_iff.1 HKl.out).1 (fun e => by injection e; omega)).trans HKl.out
    have km0 : wm.cell? ⟨w3.heap.size, 0, none⟩ = some (.int .i64 (-1)) := cell_of_row _ _ 0 _ _ _ km
    have km1 : wm.cell? ⟨w3.heap.size, 1, none⟩ = some (.int .i64 100) := cell_of_row _ _ 1 _ _ _ km
    have HGm := Lib.hid (grown_trans HGl.out hgm)
    clear hgm km HGl HWl hrl
    rcases (show y9 = 0 ∨ y9 = 1 by omega) with rfl | rfl
    · go_wp2
      go_ret
      exact ⟨_, rfl, by omega, hrm.more (by omega), HGm.out⟩
    · go_wp2
      go_ret
      exact ⟨_, rfl, by omega, hrm.more (by omega), HGm.out⟩
  · have hx9' : (a == 0) = false := by rw [beq_eq_false_iff_ne]; exact hx9
    go_wp2_with fail
    refine (pick_any 3 (by omega) (by omega) R (q + 1) (by omega) w3 hr3).mono ?_
    rintro e wm ⟨y9, rfl, y90, y91, hrm, hgm⟩
    have HGm := Lib.hid (grown_trans HG3.out hgm)
    clear hgm HG3 hr3
    go_wp2
    go_ret
    exact ⟨_, rfl, by omega, hrm.more (by omega), HGm.out⟩
def FirstDrawn (R q : Nat) (w : World) (e : Ending) (w' : World) : Prop :=
  ∃ tv mv t m T U, e = .returned (.tuple #[tv, mv]) ∧ HDr w R w.heap.size T U tv mv t m q w' ∧ t.length ≤ 4 ∧ (∀ r ∈ t, r.length ≤ 4)
set_option maxHeartbeats 2000000 in
theorem first_any (R q : Nat) (hq : q + 60 < 1000000) (w : World) (hr : RdN w R q) : Calls Tryd.prog 37 #[.pointer (some ⟨R, 0, none⟩)] w (FirstDrawn R (q + 60) w) := by
  have hR := hr.lt
  go_enter Tryd.func37, Tryd.ntmps37
  go_wp2_with fail
  refine (tab_any 7 (by omega) (by omega) R q (by omega) _ hr).mono ?_
  rintro e w1 ⟨v, t, rfl, ho1, hl, hrow, hr1, hg1⟩
  have HO1 := Lib.hid ho1
  have HROW := Lib.hid hrow
  have HG1 := Lib.hid hg1
  have hz1 := hg1.size
  clear ho1 hrow hg1 hr
  go_wp2_with fail
  refine (pick_any 2 (by omega) (by omega) R (q + 24) (by omega) w1 hr1).mono ?_
  rintro e w3 ⟨a, rfl, a0, a1, hr3, hg3⟩
  have HO3 := Lib.hid (HO1.out.grown hg3 hR)
  have HG3 := Lib.hid (grown_trans HG1.out hg3)
  have hz3 := hg3.size
  clear hg3 HO1 HG1 hr1
  obtain ⟨k, hk⟩ : ∃ k, 2 + a = k := ⟨_, rfl⟩
  have hwk : IntKind.i64.wrap (2 + a) = k := by rw [IntKind.wrap_i64]; omega
  obtain ⟨g, hg⟩ : ∃ g, tabOk t = g := ⟨_, rfl⟩
  have HGG := Lib.hid hg
  obtain ⟨sm, hsm⟩ : ∃ sm, msmallI t k = sm := ⟨_, rfl⟩
  have HSM := Lib.hid hsm
  clear hg hsm
  go_wp2_with fail
  refine (sSmall_is w3 t _ HO3.out.is k sm g HSM.out HGG.out _ (Below.refl _ _)).mono ?_
  rintro e w4 ⟨u, rfl, hu, hb4⟩
  have HH4 := Lib.hid (show HDr w R w.heap.size w3.heap.size w4.heap.size v u t sm (q + 25) w4 from ⟨HO3.out.up.below hb4 , hu, hr3.keep (hb4.mono hr3.lt), grown_below HG3.out hb4, hR, by omega, Nat.le_refl _, hb4.size⟩)
  clear hu hb4 hr3 HO3 HG3 hwk
  cases g
  · go_wp2_with fail
    refine (mask_any R (q + 25) (by omega) t v w.heap.size _ w4 HH4.out.tm hR hl HROW.out HH4.out.rd).mono ?_
    rintro e w5 ⟨u5, m5, rfl, hm5, hml, hmr, hr5, hg5⟩
    have HH5 := Lib.hid (show HDr w R w.heap.size w4.heap.size w5.heap.size v u5 t m5 (q + 60) w5 from ⟨HH4.out.tm.up.grown hg5 hR, hm5, hr5.more (by omega), grown_trans HH4.out.gr hg5, hR, by have := HH4.out.gr.size; omega, Nat.le_refl _, hg5.size⟩)
    clear hm5 hr5 hg5 HH4
    go_wp2
    go_ret2
    exact ⟨v, u5, t, m5, _, _, rfl, HH5.out, hl, HROW.out⟩
  · go_wp2_with fail
    refine (pick_any 6 (by omega) (by omega) R (q + 25) (by omega) w4 HH4.out.rd).mono ?_
    rintro e w6 ⟨b, rfl, b0, b1, hr6, hg6⟩
    have HH6 := Lib.hid (HH4.out.pick hr6 hg6)
    clear hr6 hg6 HH4
    by_cases hb : b = 0
    · subst hb
      go_wp2_with fail
      refine (mask_any R (q + 25 + 1) (by omega) t v w.heap.size _ w6 HH6.out.tm hR hl HROW.out HH6.out.rd).mono ?_
      rintro e w5 ⟨u5, m5, rfl, hm5, hml, hmr, hr5, hg5⟩
      have HH5 := Lib.hid (show HDr w R w.heap.size w6.heap.size w5.heap.size v u5 t m5 (q + 60) w5 from ⟨HH6.out.tm.up.grown hg5 hR, hm5, hr5.more (by omega), grown_trans HH6.out.gr hg5, hR, by have := HH6.out.gr.size; omega, Nat.le_refl _, hg5.size⟩)
      clear hm5 hr5 hg5 HH6
      go_wp2
      go_ret2
      exact ⟨v, u5, t, m5, _, _, rfl, HH5.out, hl, HROW.out⟩
    · have hb' : (b == 0) = false := by rw [beq_eq_false_iff_ne]; exact hb
      go_wp2
      go_ret2
      exact ⟨v, u, t, sm, _, _, rfl, HH6.out.more (by omega), hl, HROW.out⟩
theorem results_tmp5 {fn : Func} {t u v x y : Tmp} (h : fn.results = #[.tmp t, .tmp u, .tmp v, .tmp x, .tmp y]) (tmps : Array Value) (P : Program) (w : World) :
    (results fn tmps).run P w = .ok (.tuple #[tmps.getD t undef, tmps.getD u undef, tmps.getD v undef, tmps.getD x undef, tmps.getD y undef]) w := by
  simp [results, h]
def DrawnHidN (w : World) (e : Ending) (w' : World) : Prop := ∃ tv mv t m i j n, e = .returned (.tuple #[tv, mv, .int .i64 i, .int .i64 j, .int .i64 n]) ∧ IsR w' tv t ∧ IsM w' mv m ∧ t.length ≤ 4 ∧ (∀ r ∈ t, r.length ≤ 4) ∧ m.length ≤ 5 ∧ (∀ r ∈ m, r.length ≤ 4) ∧ (-1 ≤ n ∧ n ≤ 100) ∧ Below w.heap.size w w'
def DrawnFM (w : World) (e : Ending) (w' : World) : Prop := ∃ tv fv mv t f m n, e = .returned (.tuple #[tv, fv, mv, .int .i64 n]) ∧ IsR w' tv t ∧ IsM w' fv f ∧ IsM w' mv m ∧ t.length ≤ 4 ∧ (∀ r ∈ t, r.length ≤ 4) ∧ (-1 ≤ n ∧ n ≤ 100) ∧ Below w.heap.size w w'
def DrawnF (w : World) (e : Ending) (w' : World) : Prop := ∃ tv fv t f n, e = .returned (.tuple #[tv, fv, .int .i64 n]) ∧ IsR w' tv t ∧ IsM w' fv f ∧ t.length ≤ 4 ∧ (∀ r ∈ t, r.length ≤ 4) ∧ (-1 ≤ n ∧ n ≤ 100) ∧ Below w.heap.size w w'
set_option maxHeartbeats 2000000 in
theorem dPStep_any (A : Option Addr) (n c : Nat) (hnc : n ≤ c) (hn : n ≤ maxLen) (w : World) (hb : Bytes w w.heap.size A n) : Calls Tryd.prog 13 #[.slice A n c] w (DrawnFM w) := by
  go_enter Tryd.func13, Tryd.ntmps13
  go_wp2_with fail
  refine (l6Open_any A n c hnc hn _ hb).mono ?_
  rintro e w1 ⟨rfl, ⟨n', c', hr⟩, hb1⟩
  have hr1 : RdN w1 w.heap.size 0 := ⟨_, _, _, _, hr, Nat.le_refl _⟩
  have hR := hr1.lt
  have HB1 := Lib.hid hb1
  clear hr hb hb1
  go_wp2_with fail
  refine (first_any w.heap.size 0 (by omega) w1 hr1).mono ?_
  rintro e w2 ⟨tv, mv, t, m, T, U, rfl, hh, h1, h2⟩
  have HH := Lib.hid hh
  have HROW := Lib.hid h2
  clear hh h2 hr1
  obtain ⟨At, ct, hv, _, _, _⟩ := HH.out.tm.is
  subst hv
  obtain ⟨Au, cu, hu, _, _, _⟩ := HH.out.mm.is
  subst hu
  go_wp2_with fail
  refine (pick_any 3 (by omega) (by omega) w.heap.size _ (by omega) w2 HH.out.rd).mono ?_
  rintro e w5 ⟨b, rfl, b0, b1, hr5, hg5⟩
  have HH5 := Lib.hid (HH.out.pick hr5 hg5)
  have hR5 := HH5.out.rd.lt
  clear hr5 hg5 HH
  by_cases hb : b = 0
  · subst hb
    go_wp2_with fail
    refine (mask_any w.heap.size _ (by omega) t _ _ _ w5 HH5.out.tm HH5.out.hR h1 HROW.out HH5.out.rd).mono ?_
    rintro e wq ⟨uq, mq, rfl, hmq, hml, hmr, hrq, hgq⟩
    have HHq := Lib.hid (HH5.out.to hrq hgq)
    have HMq := Lib.hid hmq
    clear hrq hgq hmq HH5
    obtain ⟨Aq, cq, huq, _, _, _⟩ := HMq.out.is
    subst huq
    have hTq := HMq.out.1
    go_wp2_with fail
    refine (lSafe_any w.heap.size _ (by omega) wq HHq.out.rd).mono ?_
    rintro e w3 ⟨x, rfl, hx, hr3, hg3⟩
    have HH3 := Lib.hid (HHq.out.to hr3 hg3)
    have HM3 := Lib.hid (HMq.out.grown hg3 hR5)
    clear hr3 hg3 HHq HMq
    go_wp2
    refine bodyPost_ret (results_tmp4 rfl _ _ _) rfl ?_
    exact ⟨_, _, _, t, m, mq, x, rfl, HH3.out.tm.is, HH3.out.mm.is, HM3.out.is, h1, HROW.out, hx, HB1.out.trans (grown_old HH3.out.gr (Nat.le_refl _) (by omega))⟩
  · have hb' : (b == 0) = false := by rw [beq_eq_false_iff_ne]; exact hb
    go_wp2_with fail
    refine (pick_any 2 (by omega) (by omega) w.heap.size _ (by omega) w5 HH5.out.rd).mono ?_
    rintro e w6 ⟨x, rfl, x0, x1, hr6, hg6⟩
    have HH6 := Lib.hid (HH5.out.pick hr6 hg6)
    clear hr6 hg6 HH5
    have hwx : IntKind.i64.wrap (1 + x) = 1 + x := by rw [IntKind.wrap_i64]; omega
    go_wp2
    refine bodyPost_ret (results_tmp4 rfl _ _ _) rfl ?_
    exact ⟨_, _, _, t, m, m, _, rfl, HH6.out.tm.is, HH6.out.mm.is, HH6.out.mm.is, h1, HROW.out, by omega, HB1.out.trans (grown_old HH6.out.gr (Nat.le_refl _) (by omega))⟩
set_option maxHeartbeats 2000000 in
theorem dPGrow_any (A : Option Addr) (n c : Nat) (hnc : n ≤ c) (hn : n ≤ maxLen) (w : World) (hb : Bytes w w.heap.size A n) : Calls Tryd.prog 18 #[.slice A n c] w (DrawnF w) := by
  go_enter Tryd.func18, Tryd.ntmps18
  go_wp2_with fail
  refine (l6Open_any A n c hnc hn _ hb).mono ?_
  rintro e w1 ⟨rfl, ⟨n', c', hr⟩, hb1⟩
  have hr1 : RdN w1 w.heap.size 0 := ⟨_, _, _, _, hr, Nat.le_refl _⟩
  have hR := hr1.lt
  have HB1 := Lib.hid hb1
  clear hr hb hb1
  go_wp2_with fail
  refine (first_any w.heap.size 0 (by omega) w1 hr1).mono ?_
  rintro e w2 ⟨tv, mv, t, m, T, U, rfl, hh, h1, h2⟩
  have HH := Lib.hid hh
  have HROW := Lib.hid h2
  clear hh h2 hr1
  obtain ⟨At, ct, hv, _, _, _⟩ := HH.out.tm.is
  subst hv
  obtain ⟨Au, cu, hu, _, _, _⟩ := HH.out.mm.is
  subst hu
  go_wp2_with fail
  refine (lSafe_any w.heap.size _ (by omega) w2 HH.out.rd).mono ?_
  rintro e w3 ⟨x, rfl, hx, hr3, hg3⟩
  have HH3 := Lib.hid (HH.out.to hr3 hg3)
  clear hr3 hg3 HH
  go_wp2
  refine bodyPost_ret (results_tmp3 rfl _ _ _) rfl ?_
  exact ⟨_, _, t, m, x, rfl, HH3.out.tm.is, HH3.out.mm.is, h1, HROW.out, hx, HB1.out.trans (grown_old HH3.out.gr (Nat.le_refl _) (by omega))⟩
end Go.Proofs.YtobgceebolmfcaaDoor
