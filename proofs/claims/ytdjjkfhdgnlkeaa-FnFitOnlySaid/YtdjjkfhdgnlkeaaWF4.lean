/- A law of chapter 13: FitOnly. -/
import Derived.Test.YtdjjkfhdgnlkeaaWN0
import Derived.Deep.RegionHeld3
import Derived.Test.YtdjjkfhdgnlkeaaWL0
import Derived.Test.YtdjjkfhdgnlkeaaTD8
import Derived.Test.YtdjjkfhdgnlkeaaIV11
import Derived.Test.YtdjjkfhdgnlkeaaSB6
namespace Go.Proofs.Ytdjjkfhdgnlkeaa
open Go.RowKit
theorem cnt2_bd9 (q d : Nat) (_hq : q ≤ 4) (_hd : d ≤ 4) (f : Nat → Nat → Bool) : 0 ≤ cnt2 q d f :=
  (sm_bdC _ d q fun k _ => by
    have := sm_bdC (fun l => if f k l = true then (1 : Int) else 0) 1 d (fun j hj => by show 0 ≤ (if f k j = true then (1 : Int) else 0) ∧ (if f k j = true then (1 : Int) else 0) ≤ 1; split <;> omega)
    show 0 ≤ (sm d fun l => if f k l = true then (1 : Int) else 0) ∧ (sm d fun l => if f k l = true then (1 : Int) else 0) ≤ d
    omega).1
theorem sameInts_ne (x y : List Int) (A B : Option Addr) (n1 n2 c d : Nat) (h1 : n1 = x.length) (h2 : n2 = y.length) (h3 : n2 = n1) (hl : x.length ≤ maxLen) (w : World) (ha : Row w w.heap.size A (icells x)) (hb : Row w w.heap.size B (icells y)) :
    Calls Try.prog 39 #[.slice A n1 c, .slice B n2 d] w (QR (.bool (decide (x = y))) w) := by
  subst h3
  have H1 := Lib.hid h1
  have H2 := Lib.hid h2
  have hl2 : n2 ≤ 2 ^ 63 - 1 := by rw [h1]; exact hl
  clear h1 h2 hl
  go_enter Try.func39, Try.ntmps39
  go_wp2
  go_loopw [5] (fun i wr => ∃ k m : Nat, k ≤ n2 ∧ i = .int .i64 k ∧ (∀ j, j < k → x.getD j 0 = y.getD j 0) ∧ wr = w.drewN m) (fun i _ => n2 - (intOf i).toNat)
  case atStart => exact ⟨0, 0, Nat.zero_le _, rfl, fun j hj => absurd hj (Nat.not_lt_zero _), rfl⟩
  case round =>
    obtain ⟨k, m, hk, rfl, hs, hw⟩ := hrel
    have HW := Lib.hid hw; clear hw
    have HS := Lib.hid hs; clear hs
    by_cases hlt : k < n2
    · have hki : (k : Int) < (n2 : Int) := by omega
      obtain ⟨b, o, rfl, _, c0⟩ := ha.int_ k (by rw [← H1.out]; exact hlt)
      obtain ⟨b2, o2, rfl, _, c1⟩ := hb.int_ k (by rw [← H2.out]; exact hlt)
      have c0' : wr.cell? ⟨b, o + k, none⟩ = some (.int .i64 (x.getD k 0)) := by rw [HW.out]; exact c0
      have c1' : wr.cell? ⟨b2, o2 + k, none⟩ = some (.int .i64 (y.getD k 0)) := by rw [HW.out]; exact c1
      clear c0 c1 ha hb
      obtain ⟨p, hp⟩ : ∃ p, x.getD k 0 = p := ⟨_, rfl⟩
      obtain ⟨r, hr⟩ : ∃ r, y.getD k 0 = r := ⟨_, rfl⟩
      rw [hp] at c0'
      rw [hr] at c1'
      have HP := Lib.hid hp
      have HR := Lib.hid hr
      clear hp hr
      by_cases hpr : p = r
      · subst hpr
        go_wp2
        go_quiet (fail)
        go_wp2
        go_roundw
        case rel => exact ⟨k + 1, m + nq, by omega, by go_num, fun j hj => by
          rcases (show j < k ∨ j = k by omega) with h | rfl
          · exact HS.out j h
          · rw [HP.out, HR.out], by rw [HW.out, World.drewN_drewN]⟩
        case measure => simp [intOf]; omega
      · have h2 : (p == r) = false := by rw [beq_eq_false_iff_ne]; exact hpr
        have HE := Lib.hid (show decide (x = y) = false from decide_eq_false fun e => hpr (by rw [← HP.out, ← HR.out, e]))
        go_wp2
        go_quiet (fail)
        go_wp2
        go_ret
        exact ⟨by rw [HE.out]; rfl, m + nq, by rw [HW.out, World.drewN_drewN]⟩
    · obtain rfl : k = n2 := by omega
      have HE := Lib.hid (show decide (x = y) = true from decide_eq_true (List.ext_getElem (by rw [← H1.out, ← H2.out]) fun j ja jb => by
        have := HS.out j (by rw [H1.out]; exact ja)
        rw [getD_of _ _ ja, getD_of _ _ jb] at this
        exact this))
      go_wp2
      go_ret
      exact ⟨by rw [HE.out]; rfl, m, HW.out⟩
theorem sameRows_ne (ll rr : List (List Int)) (A B : Option Addr) (n1 n2 c d : Nat) (h1 : n1 = ll.length) (h2 : n2 = rr.length) (h3 : n2 = n1) (hr : ∀ k, k < n1 → (rr.getD k []).length = (ll.getD k []).length) (hl : ll.length ≤ maxLen) (w : World) (ha : LL w w.heap.size A ll) (hb : LL w w.heap.size B rr) :
    Calls Try.prog 17 #[.slice A n1 c, .slice B n2 d] w (QR (.bool (decide (ll = rr))) w) := by
  subst h3
  have H1 := Lib.hid h1
  have H2 := Lib.hid h2
  have HRR := Lib.hid hr
  have hl2 : n2 ≤ 2 ^ 63 - 1 := by rw [h1]; exact hl
  clear h1 h2 hl hr
  go_enter Try.func17, Try.ntmps17
  go_wp2
  go_loopw [5] (fun i wr => ∃ k m : Nat, k ≤ n2 ∧ i = .int .i64 k ∧ (∀ j, j < k → ll.getD j [] = rr.getD j []) ∧ wr = w.drewN m) (fun i _ => n2 - (intOf i).toNat)
  case atStart => exact ⟨0, 0, Nat.zero_le _, rfl, fun j hj => absurd hj (Nat.not_lt_zero _), rfl⟩
  case round =>
    obtain ⟨k, m, hk, rfl, hs, hw⟩ := hrel
    have HW := Lib.hid hw; clear hw
    have HS := Lib.hid hs; clear hs
    by_cases hlt : k < n2
    · have hki : (k : Int) < (n2 : Int) := by omega
      obtain ⟨b, o, Ai, ci, rfl, _, c0, g1, g2, r0⟩ := ha.at_ k (by rw [← H1.out]; exact hlt)
      obtain ⟨b2, o2, Aj, cj, rfl, _, c1, g3, g4, r1⟩ := hb.at_ k (by rw [← H2.out]; exact hlt)
      have hln := HRR.out k hlt
      rw [hln] at c1
      have c0' : wr.cell? ⟨b, o + k, none⟩ = some (.slice Ai (ll.getD k []).length ci) := by rw [HW.out]; exact c0
      have c1' : wr.cell? ⟨b2, o2 + k, none⟩ = some (.slice Aj (ll.getD k []).length cj) := by rw [HW.out]; exact c1
      have r0' : Row wr wr.heap.size Ai (icells (ll.getD k [])) := by rw [HW.out]; exact r0
      have r1' : Row wr wr.heap.size Aj (icells (rr.getD k [])) := by rw [HW.out]; exact r1
      have HLN := Lib.hid (Nat.le_trans g1 g2)
      clear c0 c1 ha hb r0 r1 g1 g2 g3 g4
      obtain ⟨x, hx⟩ : ∃ x, ll.getD k [] = x := ⟨_, rfl⟩
      obtain ⟨y, hy⟩ : ∃ y, rr.getD k [] = y := ⟨_, rfl⟩
      rw [hx] at c0' c1' r0' HLN hln
      rw [hy] at r1' hln
      have HX := Lib.hid hx
      have HY := Lib.hid hy
      obtain ⟨nx, hnx⟩ : ∃ nx, x.length = nx := ⟨_, rfl⟩
      rw [hnx] at c0' c1' hln
      have HNX := Lib.hid hnx
      have HNY := Lib.hid hln
      clear hnx hx hy hln
      by_cases hxy : x = y
      · have HQ := Lib.hid (show decide (x = y) = true from decide_eq_true hxy)
        go_wp2
        go_quiet ((go_at_call 39; refine Calls.quiet_of (v := .bool true) (HQ.out ▸ sameInts_ne x y _ _ nx nx _ _ HNX.out.symm HNY.out.symm rfl HLN.out _ ?_ ?_); exact r0'; exact r1'))
        go_wp2
        go_roundw
        case rel => exact ⟨k + 1, m + nq, by omega, by go_num, fun j hj => by
          rcases (show j < k ∨ j = k by omega) with h | rfl
          · exact HS.out j h
          · rw [HX.out, HY.out, hxy], by rw [HW.out, World.drewN_drewN]⟩
        case measure => simp [intOf]; omega
      · have HQ := Lib.hid (show decide (x = y) = false from decide_eq_false hxy)
        have HE := Lib.hid (show decide (ll = rr) = false from decide_eq_false fun e => hxy (by rw [← HX.out, ← HY.out, e]))
        go_wp2
        go_quiet ((go_at_call 39; refine Calls.quiet_of (v := .bool false) (HQ.out ▸ sameInts_ne x y _ _ nx nx _ _ HNX.out.symm HNY.out.symm rfl HLN.out _ ?_ ?_); exact r0'; exact r1'))
        go_wp2
        go_ret
        exact ⟨by rw [HE.out]; rfl, m + nq, by rw [HW.out, World.drewN_drewN]⟩
    · obtain rfl : k = n2 := by omega
      have HE := Lib.hid (show decide (ll = rr) = true from decide_eq_true (List.ext_getElem (by rw [← H1.out, ← H2.out]) fun j ja jb => by
        have := HS.out j (by rw [H1.out]; exact ja)
        rw [getD_of _ _ ja, getD_of _ _ jb] at this
        exact this))
      go_wp2
      go_ret
      exact ⟨by rw [HE.out]; rfl, m, HW.out⟩

set_option maxRecDepth 100000 in
set_option maxHeartbeats 4000000 in
theorem w_FitOnly (A : Option Addr) (n c : Nat) (hnc : n ≤ c) (hn : n ≤ maxLen) (w : World) (hb : Bytes w w.heap.size A n) :
    Calls Try.prog 5 #[.slice A n c] w fun e w' => e = .returned (.bool true) ∧ Below w.heap.size w w' := by
  have hn2 := hn
  unfold maxLen at hn2
  rcases (show 1048576 < n ∨ ¬ 1048576 < n by omega) with hbig | hbig
  · go_enter Try.func5, Try.ntmps5
    go_wp2
    go_ret
    exact ⟨rfl, Below.refl _ _⟩
  · go_enter Try.func5, Try.ntmps5
    go_wp2_with fail
    refine (dFit_any A n c hnc hn _ hb).mono ?_
    rintro e W ⟨tv, uv, xv, t, m, x, rfl, ht, hu, hx, hl, hlr, hml, hmr, hxl, hxr, hbW⟩
    have HT := Lib.hid ht
    have HU := Lib.hid hu
    have HX := Lib.hid hx
    have HBW := Lib.hid hbW
    obtain ⟨g, hg⟩ : ∃ g, fitB t m x = g := ⟨_, rfl⟩
    have HG := Lib.hid hg
    clear hb ht hu hx hbW hl hlr hml hmr hg hn hxl hxr
    go_wp2_with fail
    refine (iFit_is W t _ HT.out m _ HU.out x _ HX.out g HG.out _ (Below.refl _ _)).mono ?_
    rintro e w1 ⟨rfl, b1⟩
    go_wp2_with fail
    refine (sFit_is W t _ HT.out m _ HU.out x _ HX.out g HG.out _ b1).mono ?_
    rintro e w2 ⟨rfl, b2⟩
    cases g
    · go_wp2
      go_ret
      exact ⟨rfl, HBW.out.trans (b2.mono HBW.out.size)⟩
    have hf := fitB_iff.1 HG.out
    have HFP := Lib.hid hf
    obtain ⟨hmk, hxl, hxr, hff⟩ := hf
    obtain ⟨htb, hml, hmr⟩ := mk_parts.1 hmk
    have HMK := Lib.hid hmk
    have HTB := Lib.hid htb
    have HTK := Lib.hid (tab_iff.2 htb)
    have HML := Lib.hid (show m.length ≤ 1000 by have := htb.h4; omega)
    have HMR := Lib.hid (show ∀ r ∈ m, r.length ≤ 100000 from fun r hr => by have := hmr r hr; have := htb.w4; omega)
    have HMR2 := Lib.hid hmr
    have HM1 := Lib.hid (show 1 ≤ m.length by have := htb.h1; omega)
    have HTL := Lib.hid (show t.length ≤ 1000 by have := htb.h4; omega)
    have HTD := Lib.hid htb.len
    have HTD6 := Lib.hid (show wd t ≤ 1000 by have := htb.w4; omega)
    have HTR := Lib.hid (show ∀ r ∈ t, r.length ≤ 100000 from fun r hr => by have := htb.len r hr; have := htb.w4; omega)
    clear b1 hff
    have htl4 := htb.h4
    have hln : ∀ k, k < t.length → (x.getD k []).length = (t.getD k []).length := fun k hk => by
      rw [hxr _ (by rw [getD_of _ _ (show k < x.length by rw [hxl]; exact hk)]; exact List.getElem_mem _), htb.len _ (by rw [getD_of _ _ hk]; exact List.getElem_mem _)]
    have HLN := Lib.hid hln
    have HXL := Lib.hid hxl
    obtain ⟨g, hg⟩ : ∃ g, decide (t = x) = g := ⟨_, rfl⟩
    have HGX := Lib.hid hg
    have HG0 := Lib.hid ((m_fitOnly HFP.out).trans hg)
    obtain ⟨M, hM⟩ : ∃ M, toldN t m = M := ⟨_, rfl⟩
    have HM := Lib.hid hM
    have hM0 : 0 ≤ M := by
      rw [← hM, toldN, if_pos hmk]
      exact (cnt2_bd9 t.length (wd t) htb.h4 htb.w4 _)
    clear hg hM hln hmk htb hml hmr hxl hxr
    go_wp2_with fail
    refine (lAll_is W t _ HT.out (wd t) HTL.out HTD.out HTD6.out false (allM t false) rfl _ b2).mono ?_
    rintro e x2 ⟨v4, rfl, ho4, h4⟩
    have HV4 := Lib.hid ho4.is
    have z2 := below_step b2 h4
    have HT4 := Lib.hid (HT.out.below z2)
    have HX4 := Lib.hid (HX.out.below z2)
    have HU4 := Lib.hid (HU.out.below z2)
    have HB4 := Lib.hid (HBW.out.trans (z2.mono HBW.out.size))
    clear ho4 h4 b2
    go_wp2_with fail
    refine (iFit_is x2 t _ HT4.out (allM t false) _ HV4.out x _ HX4.out g HG0.out _ (Below.refl _ _)).mono ?_
    rintro e x3 ⟨rfl, k3⟩
    have HK3 := Lib.hid k3
    obtain ⟨At, ct, rfl, _, _, lt3⟩ := HT4.out.below k3
    obtain ⟨Ax, cx, rfl, _, _, lx3⟩ := HX4.out.below k3
    have LT3 := Lib.hid lt3
    have LX3 := Lib.hid lx3
    clear lt3 lx3 k3
    go_wp2_with fail
    refine (sameRows_ne t x At Ax _ _ ct cx rfl rfl HXL.out HLN.out (by have := HTL.out; simp only [maxLen]; omega) _ LT3.out LX3.out).mono ?_
    rintro e x4 ⟨rfl, mq, hx4⟩
    have k4 : Below x2.heap.size x2 x4 := by rw [hx4]; exact below_drewN HK3.out mq
    rw [HGX.out]
    clear hx4
    cases g
    all_goals
      go_wp2_with fail
      refine (iMany_is x2 t _ HT4.out m _ HU4.out M HM.out _ k4).mono ?_
      rintro e x5 ⟨rfl, k5⟩
      have HK := Lib.hid (HB4.out.trans (k5.mono HB4.out.size))
      clear k4 k5
      go_wp2
      all_goals
        go_ret
        exact ⟨by first | rfl | exact retb (by simp) | exact retb (by simp; omega), HK.out⟩
end Go.Proofs.Ytdjjkfhdgnlkeaa
