/- A law of chapter 13: FitBounds. -/
import Derived.Test.YtpajbgkgleeifaaWN0
import Derived.Deep.RegionHeld3
import Derived.Test.YtpajbgkgleeifaaWL0
import Derived.Test.YtpajbgkgleeifaaTD8
import Derived.Test.YtpajbgkgleeifaaIV11
import Derived.Test.YtpajbgkgleeifaaSB6
namespace Go.Proofs.Ytpajbgkgleeifaa
open Go.RowKit
set_option maxRecDepth 100000 in
set_option maxHeartbeats 4000000 in
theorem w_FitBounds (A : Option Addr) (n c : Nat) (hnc : n ≤ c) (hn : n ≤ maxLen) (A2 : Option Addr) (n2 c2 : Nat) (_hmc : n2 ≤ c2) (hm : n2 ≤ maxLen) (w : World) (hb : Bytes w w.heap.size A n) (_hb2 : Bytes w w.heap.size A2 n2) :
    Calls Try.prog 4 #[.slice A n c, .slice A2 n2 c2] w fun e w' => e = .returned (.bool true) ∧ Below w.heap.size w w' := by
  have hn2 := hn
  have hm2 := hm
  unfold maxLen at hn2 hm2
  rcases (show 1048576 < n ∨ (¬ 1048576 < n ∧ 1048576 < n2) ∨ ¬ 1048576 < n ∧ ¬ 1048576 < n2 by omega) with hbig | ⟨hbig, hbig2⟩ | ⟨hbig, hbig2⟩
  · go_enter Try.func4, Try.ntmps4
    go_wp2
    go_ret
    exact ⟨rfl, Below.refl _ _⟩
  · go_enter Try.func4, Try.ntmps4
    go_wp2
    go_ret
    exact ⟨rfl, Below.refl _ _⟩
  · go_enter Try.func4, Try.ntmps4
    go_wp2_with fail
    refine (dFit_any A n c hnc hn _ hb).mono ?_
    rintro e W ⟨tv, uv, xv, t, m, x, rfl, ht, hu, hx, hl, hlr, hml, hmr, hxl, hxr, hbW⟩
    have HT := Lib.hid ht
    have HU := Lib.hid hu
    have HX := Lib.hid hx
    have HBW := Lib.hid hbW
    obtain ⟨g, hg⟩ : ∃ g, fitB t m x = g := ⟨_, rfl⟩
    have HG := Lib.hid hg
    clear hb ht hu hx hbW hl hlr hml hmr hg hn hxl hxr
    go_wp2_with fail
    refine (iFit_is W t _ HT.out m _ HU.out x _ HX.out g HG.out _ (Below.refl _ _)).mono ?_
    rintro e w1 ⟨rfl, b1⟩
    go_wp2_with fail
    refine (sFit_is W t _ HT.out m _ HU.out x _ HX.out g HG.out _ b1).mono ?_
    rintro e w2 ⟨rfl, b2⟩
    cases g
    · go_wp2
      go_ret
      exact ⟨rfl, HBW.out.trans (b2.mono HBW.out.size)⟩
    have hf := fitB_iff.1 HG.out
    have HFP := Lib.hid hf
    obtain ⟨hmk, hxl, hxr, hff⟩ := hf
    obtain ⟨htb, hml, hmr⟩ := mk_parts.1 hmk
    have HMK := Lib.hid hmk
    have HTB := Lib.hid htb
    have HTK := Lib.hid (tab_iff.2 htb)
    have HML := Lib.hid (show m.length ≤ 1000 by have := htb.h4; omega)
    have HMR := Lib.hid (show ∀ r ∈ m, r.length ≤ 100000 from fun r hr => by have := hmr r hr; have := htb.w4; omega)
    have HMR2 := Lib.hid hmr
    have HM1 := Lib.hid (show 1 ≤ m.length by have := htb.h1; omega)
    have HTL := Lib.hid (show t.length ≤ 1000 by have := htb.h4; omega)
    have HTD := Lib.hid htb.len
    have HTD6 := Lib.hid (show wd t ≤ 1000 by have := htb.w4; omega)
    have HTR := Lib.hid (show ∀ r ∈ t, r.length ≤ 100000 from fun r hr => by have := htb.len r hr; have := htb.w4; omega)
    clear b1 hff
    have ht1 := htb.h1
    have ht4 := htb.h4
    have hw1 := htb.w1
    have hw4 := htb.w4
    obtain ⟨k, l, hk, hkq, hl, hl2, hld⟩ := modTwo n2 t.length (wd t) (by assumption) ht1 hw1
    obtain ⟨At, ct, htv, htc, htm, hrt⟩ := HT.out.below b2
    obtain ⟨bt, ot, A0, c0, hAt, hbt, e0, _, _, _⟩ := hrt.at_ 0 ht1
    have hw0 : (t.getD 0 []).length = wd t := htb.len _ (by rw [getD_of _ _ ht1]; exact List.getElem_mem _)
    rw [hw0] at e0
    subst hAt htv
    have HT2 := Lib.hid (HT.out.below b2)
    have HU2 := Lib.hid (HU.out.below b2)
    clear hrt
    obtain ⟨q, hq⟩ : ∃ q, t.length = q := ⟨_, rfl⟩
    obtain ⟨d, hd⟩ : ∃ d, wd t = d := ⟨_, rfl⟩
    have HQ := Lib.hid hq
    have HD := Lib.hid hd
    rw [hq] at HT2 ht1 ht4 ⊢
    rw [hd] at e0 hw1 hw4
    have hq0i : (0 : Int) < (q : Int) := by omega
    have hq0 : 0 < q := ht1
    rw [Nat.add_zero] at e0
    rw [hq] at hk hl hl2 hkq
    rw [hd] at hl hl2 hld
    have HKM := Lib.hid hk
    have HLM := Lib.hid hl2
    clear hk hl hl2
    have hki : (k : Int) < (q : Int) := by omega
    have hli : (l : Int) < (d : Int) := by omega
    have hqn : ¬ q = 0 := Nat.ne_of_gt ht1
    have hdn : ¬ d = 0 := Nat.ne_of_gt hw1
    have HKQ := Lib.hid (show k < t.length by omega)
    have HLD := Lib.hid (show l < wd t by omega)
    have HX2 := Lib.hid (HX.out.below b2)
    have bd : Below w2.heap.size w2 w2.drew := (Below.refl _ _).drew
    have HBB := Lib.hid (show ∀ w', Below w2.heap.size w2 w' → Below w.heap.size w w' from fun w' h => HBW.out.trans ((below_step b2 h).mono HBW.out.size))
    obtain ⟨e1, e2⟩ := m_fitBounds HFP.out HKQ.out HLD.out
    obtain ⟨g1, hg1⟩ : ∃ g, hiI t m k l = g := ⟨_, rfl⟩
    obtain ⟨g2, hg2⟩ : ∃ g, loI t m k l = g := ⟨_, rfl⟩
    obtain ⟨y, hy⟩ : ∃ y, cF x k l = y := ⟨_, rfl⟩
    rw [hg1, hy] at e1
    rw [hg2, hy] at e2
    have G1 := Lib.hid hg1
    have G2 := Lib.hid hg2
    obtain ⟨Ax, cx, hxv, _, _, hlx⟩ := HX2.out
    have hkx : k < x.length := by rw [hxl]; exact HKQ.out
    have hlx2 : (x.getD k []).length = wd t := hxr _ (by rw [getD_of _ _ hkx]; exact List.getElem_mem _)
    obtain ⟨bx, ox, A1, c1, hAx, hbx, f0, _, _, rx⟩ := hlx.at_ k hkx
    obtain ⟨b2', o2', hA2, hb2, f1⟩ := rx.int_ l (by rw [hlx2]; exact HLD.out)
    rw [hlx2, hd] at f0
    rw [hxl, hq] at hxv
    have f1 : w2.cell? ⟨b2', o2' + l, none⟩ = some (.int .i64 y) := by rw [f1]; exact congrArg (fun z => some (Value.int .i64 z)) hy
    subst hxv hAx hA2
    have HCE := Lib.hid (show ∀ w', Below w2.heap.size w2 w' → Below w2.heap.size w2 w' ∧ w'.cell? ⟨bx, ox + k, none⟩ = some (.slice (some ⟨b2', o2', none⟩) d c1) ∧ w'.cell? ⟨b2', o2' + l, none⟩ = some (.int .i64 y) from
      fun w' h => ⟨h, (h.cell (p := ⟨bx, ox + k, none⟩) hbx).trans f0, (h.cell (p := ⟨b2', o2' + l, none⟩) hb2).trans f1⟩)
    clear hq hd hw0 htc htm hmk hml hmr htb hxl hxr f0 f1 hg1 hg2 hy rx hlx hkx hlx2
    go_wp2_with fail
    go_region_held3 (fun w' => w'.cell? ⟨bt, ot, none⟩ = some (.slice A0 d c0)) (first | assumption | exact e0) (fail)
    rw [HKM.out, HLM.out]
    go_wp2_with fail
    go_region_held3 (fun w' => Below w2.heap.size w2 w' ∧ w'.cell? ⟨bx, ox + k, none⟩ = some (.slice (some ⟨b2', o2', none⟩) d c1) ∧ w'.cell? ⟨b2', o2' + l, none⟩ = some (.int .i64 y))
      (first | exact HCE.out _ (by assumption) | exact HCE.out _ bd | exact HCE.out _ bd.drew) (first
      | (go_at_call 18
         with_reducible refine (iHigh_is w2 t _ HT2.out m _ HU2.out k l g1 G1.out _ (by first | assumption | exact bd | exact bd.drew)).mono ?_
         rintro e x1 ⟨rfl, y1⟩)
      | (go_at_call 19
         with_reducible refine (iLow_is w2 t _ HT2.out m _ HU2.out k l g2 G2.out _ (by first | assumption | exact bd | exact bd.drew)).mono ?_
         rintro e x2 ⟨rfl, y2⟩))
    all_goals
      go_wp2
      all_goals
        go_ret
        exact ⟨by first | rfl | exact retb (by simp) | exact retb (by simp; omega), HBB.out _ (by first | exact y2 | exact y1 | assumption)⟩
end Go.Proofs.Ytpajbgkgleeifaa
