/- The draws of chapter 14. -/
import Derived.Test.YtdjjkfhdgnlkeaaDoorTDB
import Derived.Test.YtdjjkfhdgnlkeaaDoorVSA
namespace Go.Proofs.YtdjjkfhdgnlkeaaDoor
open Go.RowKit
theorem HDr.to {w0 w w' : World} {R B T U q q' : Nat} {tv mv : Value} {t : Tb} {m : Mk} (h : HDr w0 R B T U tv mv t m q w) (hr : RdN w' R q') (hg : w.grownBy w' (some R)) : HDr w0 R B T U tv mv t m q' w' :=
  ⟨h.tm.grown hg h.hR, h.mm.grown hg (by have := h.hR; have := h.hT; omega), hr, grown_trans h.gr hg, h.hR, h.hT, h.h0, h.hU⟩
def SafeN (R q : Nat) (w : World) (e : Ending) (w' : World) : Prop := ∃ n : Int, e = .returned (.int .i64 n) ∧ (-1 ≤ n ∧ n ≤ 100) ∧ RdN w' R q ∧ w.grownBy w' (some R)
set_option maxHeartbeats 2000000 in
theorem lSafe_any (R q : Nat) (hq : q + 4 < 1000000) (w : World) (hr : RdN w R q) : Calls Tryd.prog 24 #[.pointer (some ⟨R, 0, none⟩)] w (SafeN R (q + 4) w) := by
  have hR := hr.lt
  go_enter Tryd.func24, Tryd.ntmps24
  go_wp2_with fail
  refine (pick_any 30 (by omega) (by omega) R q (by omega) w hr).mono ?_
  rintro e w3 ⟨a, rfl, a0, a1, hr3, hg3⟩
  have hz3 := hg3.size
  clear hr
  have HG3 := Lib.hid hg3
  clear hg3
  by_cases hx9 : a = 0
  · subst hx9
    obtain ⟨wl, hwl, bl, hzl, kl⟩ := one_blk9 w3 #[.int .i64 (-1), .int .i64 100] 3
    have HWl := Lib.hid hwl.symm
    have hrl : RdN wl R (q + 1) := hr3.keep (bl.mono hr3.lt)
    have HGl := Lib.hid (grown_below HG3.out bl)
    have HKl := Lib.hid kl
    clear hwl bl hzl kl hr3 HG3
    go_wp2_with fail
    rw [HWl.out]
    refine (pick_any 2 (by omega) (by omega) R (q + 1) (by omega) wl hrl).mono ?_
    rintro e wm ⟨y9, rfl, y90, y91, hrm, hgm⟩
    have hRl : w3.heap.size ≠ R := by omega
    have km : wm.heap[w3.heap.size]? = some (.cells #[.int .i64 (-1), .int .i64 100] 3 (0, 0)) := (hgm.block _ (Array.getElem?_eq_some_iff.1 HKl.out).1 (fun e => by injection e; omega)).trans HKl.out
    have km0 : wm.cell? ⟨w3.heap.size, 0, none⟩ = some (.int .i64 (-1)) := cell_of_row _ _ 0 _ _ _ km
    have km1 : wm.cell? ⟨w3.heap.size, 1, none⟩ = some (.int .i64 100) := cell_of_row _ _ 1 _ _ _ km
    have HGm := Lib.hid (grown_trans HGl.out hgm)
    clear hgm km HGl HWl hrl
    rcases (show y9 = 0 ∨ y9 = 1 by omega) with rfl | rfl
    · go_wp2
      go_ret
      exact ⟨_, rfl, by omega, hrm.more (by omega), HGm.out⟩
    · go_wp2
      go_ret
      exact ⟨_, rfl, by omega, hrm.more (by omega), HGm.out⟩
  · have hx9' : (a == 0) = false := by rw [beq_eq_false_iff_ne]; exact hx9
    go_wp2_with fail
    refine (pick_any 3 (by omega) (by omega) R (q + 1) (by omega) w3 hr3).mono ?_
    rintro e wm ⟨y9, rfl, y90, y91, hrm, hgm⟩
    have HGm := Lib.hid (grown_trans HG3.out hgm)
    clear hgm HG3 hr3
    go_wp2
    go_ret
    exact ⟨_, rfl, by omega, hrm.more (by omega), HGm.out⟩
def FirstDrawn (R q : Nat) (w : World) (e : Ending) (w' : World) : Prop :=
  ∃ tv mv t m T U, e = .returned (.tuple #[tv, mv]) ∧ HDr w R w.heap.size T U tv mv t m q w' ∧ t.length ≤ 4 ∧ (∀ r ∈ t, r.length ≤ 4)
theorem results_tmp5 {fn : Func} {t u v x y : Tmp} (h : fn.results = #[.tmp t, .tmp u, .tmp v, .tmp x, .tmp y]) (tmps : Array Value) (P : Program) (w : World) :
    (results fn tmps).run P w = .ok (.tuple #[tmps.getD t undef, tmps.getD u undef, tmps.getD v undef, tmps.getD x undef, tmps.getD y undef]) w := by
  simp [results, h]
def DrawnHidN (w : World) (e : Ending) (w' : World) : Prop := ∃ tv mv t m i j n, e = .returned (.tuple #[tv, mv, .int .i64 i, .int .i64 j, .int .i64 n]) ∧ IsR w' tv t ∧ IsM w' mv m ∧ t.length ≤ 4 ∧ (∀ r ∈ t, r.length ≤ 4) ∧ m.length ≤ 5 ∧ (∀ r ∈ m, r.length ≤ 4) ∧ (-1 ≤ n ∧ n ≤ 100) ∧ Below w.heap.size w w'
def DrawnFM (w : World) (e : Ending) (w' : World) : Prop := ∃ tv fv mv t f m n, e = .returned (.tuple #[tv, fv, mv, .int .i64 n]) ∧ IsR w' tv t ∧ IsM w' fv f ∧ IsM w' mv m ∧ t.length ≤ 4 ∧ (∀ r ∈ t, r.length ≤ 4) ∧ (-1 ≤ n ∧ n ≤ 100) ∧ Below w.heap.size w w'
def DrawnF (w : World) (e : Ending) (w' : World) : Prop := ∃ tv fv t f n, e = .returned (.tuple #[tv, fv, .int .i64 n]) ∧ IsR w' tv t ∧ IsM w' fv f ∧ t.length ≤ 4 ∧ (∀ r ∈ t, r.length ≤ 4) ∧ (-1 ≤ n ∧ n ≤ 100) ∧ Below w.heap.size w w'
set_option maxHeartbeats 2000000 in
theorem dPSafe_any (A : Option Addr) (n c : Nat) (hnc : n ≤ c) (hn : n ≤ maxLen) (w : World) (hb : Bytes w w.heap.size A n) : Calls Tryd.prog 8 #[.slice A n c] w (DrawnHidN w) := by
  go_enter Tryd.func8, Tryd.ntmps8
  go_wp2_with fail
  refine (l6Open_any A n c hnc hn _ hb).mono ?_
  rintro e w1 ⟨rfl, ⟨n', c', hr⟩, hb1⟩
  have hr1 : RdN w1 w.heap.size 0 := ⟨_, _, _, _, hr, Nat.le_refl _⟩
  have hR := hr1.lt
  have HB1 := Lib.hid hb1
  clear hr hb hb1
  go_wp2_with fail
  refine (hid_any w.heap.size 0 (by omega) w1 hr1).mono ?_
  rintro e w2 ⟨tv, mv, t, m, i, j, T, U, rfl, hh, h1, h2, h3, h4⟩
  have HH := Lib.hid hh
  have HROW := Lib.hid h2
  have HMR := Lib.hid h4
  clear hh h2 h4 hr1
  go_wp2_with fail
  refine (lSafe_any w.heap.size _ (by omega) w2 HH.out.rd).mono ?_
  rintro e w3 ⟨x, rfl, hx, hr3, hg3⟩
  have HH3 := Lib.hid (HH.out.to hr3 hg3)
  clear hr3 hg3 HH
  go_wp2
  refine bodyPost_ret (results_tmp5 rfl _ _ _) rfl ?_
  exact ⟨tv, mv, t, m, i, j, x, rfl, HH3.out.tm.is, HH3.out.mm.is, h1, HROW.out, h3, HMR.out, hx, HB1.out.trans (grown_old HH3.out.gr (Nat.le_refl _) (by omega))⟩
set_option maxHeartbeats 2000000 in
theorem dPCost_any (A : Option Addr) (n c : Nat) (hnc : n ≤ c) (hn : n ≤ maxLen) (w : World) (hb : Bytes w w.heap.size A n) : Calls Tryd.prog 17 #[.slice A n c] w (DrawnHid2 w) := by
  go_enter Tryd.func17, Tryd.ntmps17
  go_wp2_with fail
  refine (l6Open_any A n c hnc hn _ hb).mono ?_
  rintro e w1 ⟨rfl, ⟨n', c', hr⟩, hb1⟩
  have hr1 : RdN w1 w.heap.size 0 := ⟨_, _, _, _, hr, Nat.le_refl _⟩
  have hR := hr1.lt
  have HB1 := Lib.hid hb1
  clear hr hb hb1
  go_wp2_with fail
  refine (tab_any 20 (by omega) (by omega) w.heap.size 0 (by omega) _ hr1).mono ?_
  rintro e w2 ⟨v, t, rfl, ho2, h1, hrow, hr2, hg2⟩
  have HO2 := Lib.hid ho2
  have HROW := Lib.hid hrow
  have HG2 := Lib.hid hg2
  have hz2 := hg2.size
  clear ho2 hrow hg2 hr1
  go_wp2_with fail
  refine (mask_any w.heap.size _ (by omega) t _ _ _ w2 HO2.out hR h1 HROW.out hr2).mono ?_
  rintro e w3 ⟨u, m, rfl, hm, hml, hmr, hr3, hg3⟩
  have HV := Lib.hid (HO2.out.grown hg3 hR).is
  have HM := Lib.hid hm
  have HMR := Lib.hid hmr
  have HG3 := Lib.hid (grown_trans HG2.out hg3)
  clear hm hr3 hg3 hr2 HO2 HG2 hmr
  go_wp2
  go_ret2
  exact ⟨v, u, t, m, rfl, HV.out, HM.out.is, h1, HROW.out, hml, HMR.out, HB1.out.trans (grown_old HG3.out (Nat.le_refl _) (by omega))⟩
end Go.Proofs.YtdjjkfhdgnlkeaaDoor
