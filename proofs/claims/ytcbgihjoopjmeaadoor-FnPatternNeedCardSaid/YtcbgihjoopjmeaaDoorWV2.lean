/- Walks of chapter 14: what a pattern needs. -/
import Derived.Test.YtcbgihjoopjmeaaDoorVIB
import Derived.Test.YtcbgihjoopjmeaaDoorVSA
import Derived.Test.YtcbgihjoopjmeaaDoorVD
import Derived.Test.YtcbgihjoopjmeaaDoorWN0
import Derived.Test.YtcbgihjoopjmeaaDoorRQ
import Derived.Deep.RegionHeld3
import Derived.Test.YtcbgihjoopjmeaaDoorWL0
namespace Go.Proofs.YtcbgihjoopjmeaaDoor
open Go.RowKit
set_option maxRecDepth 100000 in
set_option maxHeartbeats 4000000 in
theorem w_PatternNeed (A : Option Addr) (n c : Nat) (hnc : n ≤ c) (hn : n ≤ maxLen) (w : World) (hb : Bytes w w.heap.size A n) (hT : TabW w) :
    Calls Tryd.prog 4 #[.slice A n c] w fun e w' => e = .returned (.bool true) ∧ Below w.heap.size w w' := by
  have hn2 := hn
  unfold maxLen at hn2
  rcases (show 1048576 < n ∨ ¬ 1048576 < n by omega) with hbig | hbig
  · go_enter Tryd.func4, Tryd.ntmps4
    go_wp2
    go_ret
    exact ⟨rfl, Below.refl _ _⟩
  · go_enter Tryd.func4, Tryd.ntmps4
    go_wp2_with fail
    refine (dPNeed_any A n c hnc hn _ hb).mono ?_
    rintro e W ⟨tv, fv, uv, t, f, m, N, rfl, ht, hf, hu, hl, hlr, hN, hbW⟩
    have HT := Lib.hid ht
    have HF := Lib.hid hf
    have HU := Lib.hid hu
    have HBW := Lib.hid hbW
    have HTW := Lib.hid (hT.below hbW)
    obtain ⟨g, hg⟩ : ∃ g, needN t f m N = g := ⟨_, rfl⟩
    have HG := Lib.hid hg
    clear hb ht hf hu hbW hl hlr hg hn hT
    go_wp2_with fail
    refine (iNeed_is W t _ HT.out f _ HF.out m _ HU.out N g HG.out _ (Below.refl _ _) HTW.out).mono ?_
    rintro e w1 ⟨rfl, b1⟩
    go_wp2_with fail
    refine (sNeed_is W t _ HT.out f _ HF.out m _ HU.out N g HG.out _ b1).mono ?_
    rintro e w2 ⟨rfl, b2⟩
    by_cases hneg : g < 0
    · go_wp2
      go_ret
      exact ⟨rfl, HBW.out.trans (b2.mono HBW.out.size)⟩
    have h3 : pOk3 t f m N = true := needN_ok.1 (by have := HG.out; omega)
    obtain ⟨hfk, hmk, hN0, hN9⟩ := pOk3_iff.1 h3
    have H3 := Lib.hid h3
    have HFK := Lib.hid hfk
    have HMK := Lib.hid hmk
    have htb := mk_tab hmk
    have HTB := Lib.hid htb
    have HFL := Lib.hid (show f.length ≤ 1000 by have := (mk_parts.1 hfk).2.1; have := htb.h4; omega)
    have HFR := Lib.hid (show ∀ r ∈ f, r.length ≤ 100000 from fun r hr => by have := (mk_parts.1 hfk).2.2 r hr; have := htb.w4; omega)
    have HML := Lib.hid (show m.length ≤ 1000 by have := (mk_parts.1 hmk).2.1; have := htb.h4; omega)
    have HMR := Lib.hid (show ∀ r ∈ m, r.length ≤ 100000 from fun r hr => by have := (mk_parts.1 hmk).2.2 r hr; have := htb.w4; omega)
    have HTL := Lib.hid (show t.length ≤ 1000 by have := htb.h4; omega)
    have HTD := Lib.hid htb.len
    have HTD6 := Lib.hid (show wd t ≤ 1000 by have := htb.w4; omega)
    have HTR := Lib.hid (show ∀ r ∈ t, r.length ≤ 100000 from fun r hr => by have := htb.len r hr; have := htb.w4; omega)
    clear b1
    have HT2 := Lib.hid (HT.out.below b2)
    have HF2 := Lib.hid (HF.out.below b2)
    have HU2 := Lib.hid (HU.out.below b2)
    have HTW2 := Lib.hid (HTW.out.below b2)
    have ht1 := htb.h1
    have ht4 := htb.h4
    have hw1 := htb.w1
    have hw4 := htb.w4
    obtain ⟨_, hfl, hfr⟩ := mk_parts.1 hfk
    obtain ⟨_, hml, hmr⟩ := mk_parts.1 hmk
    obtain ⟨bt, ot, ct, tb, to, tc, htv, htall⟩ := HT2.out.all htb
    obtain ⟨bf, of_, cf, fb, fo, fc, hfv, hfall⟩ := HF2.out.all (d := wd t) (by omega) hw1 hfr
    obtain ⟨bm, om, cm, mb, mo, mc, huv, hmall⟩ := HU2.out.all (d := wd t) (by omega) hw1 hmr
    rw [hfl] at hfv
    rw [hml] at huv
    subst htv hfv huv
    obtain ⟨q, hq⟩ : ∃ q, t.length = q := ⟨_, rfl⟩
    obtain ⟨d, hd⟩ : ∃ d, wd t = d := ⟨_, rfl⟩
    have HQ := Lib.hid hq
    have HD := Lib.hid hd
    rw [hml, hq, hd] at hmall
    rw [hfl, hq, hd] at hfall
    rw [hq, hd] at htall
    have HTA := Lib.hid (show ∀ w', Below w2.heap.size w2 w' → w'.cell? ⟨bt, ot, none⟩ = some (.slice (some ⟨tb 0, to 0, none⟩) d (tc 0)) ∧ (∀ i, i < q → w'.cell? ⟨bt, ot + i, none⟩ = some (.slice (some ⟨tb i, to i, none⟩) d (tc i))) ∧ ∀ i j, i < q → j < d → w'.cell? ⟨tb i, to i + j, none⟩ = some (.int .i64 (cF t i j)) from
      fun w' h => ⟨(htall w' h).1 0 (by omega), htall w' h⟩)
    have HFA := Lib.hid hfall
    have HUA := Lib.hid hmall
    rw [hq] at HT2 HF2 HU2 ht1 ht4 ⊢
    rw [hd] at hw1 hw4
    have hq0i : (0 : Int) < (q : Int) := by omega
    have hq0 : 0 < q := ht1
    have hd0 : 0 < d := hw1
    have HB2 := Lib.hid b2
    have HBB := Lib.hid (show ∀ w', Below w2.heap.size w2 w' → Below w.heap.size w w' from fun w' h => HBW.out.trans ((below_step HB2.out h).mono HBW.out.size))
    clear htall hfall hmall hfk hmk hml hmr hfl hfr htb hq hd b2
    obtain ⟨M, hM⟩ : ∃ M : Int, (mmany f : Int) = M := ⟨_, rfl⟩
    have HM := Lib.hid hM
    have H9 := Lib.hid (show mmany f ≤ 1000000000 by have e := mmany_cnt2 HFK.out; have b := cnt2_bd t.length (wd t) HTB.out.h4 HTB.out.w4 (hF f); omega)
    have hmn := need_many (t := t) (f := f) (m := m) (n := N)
    rw [HG.out, hM] at hmn
    obtain ⟨g2, hg2⟩ : ∃ g, needN t f m (N + 1) = g := ⟨_, rfl⟩
    have HG2 := Lib.hid hg2
    have hnx := need_next h3
    rw [HG.out, hg2] at hnx
    have hgc := needN_yes h3
    rw [HG.out, HQ.out, HD.out] at hgc
    have HGC := Lib.hid hgc
    have HNX := Lib.hid hnx
    have hwn : IntKind.i64.wrap (N + 1) = N + 1 := by rw [IntKind.wrap_i64] <;> omega
    clear hM hg2 hnx hgc h3
    go_wp2
    go_loopw [9, 10] (fun x i wr => ∃ k : Nat, k ≤ q ∧ i = .int .i64 k ∧ x = .int .i64 (sm k fun k => sm d fun l => (if unF t f m N k l = true then (1 : Int) else 0)) ∧ Below w2.heap.size w2 wr) (fun _ i _ => q - (intOf i).toNat)
    case atStart => exact ⟨0, Nat.zero_le _, rfl, rfl, Below.refl _ _⟩
    case round =>
      obtain ⟨k, hk, rfl, rfl, hb5⟩ := hrel
      have HB5 := Lib.hid hb5
      have hzb := sm_bdC (fun k => sm d fun l => (if unF t f m N k l = true then (1 : Int) else 0)) 4 k (fun i hi => by
        have := sm_bdC (fun l => (if unF t f m N i l = true then (1 : Int) else 0)) 1 d (fun j hj => by show 0 ≤ (if unF t f m N i j = true then (1 : Int) else 0) ∧ (if unF t f m N i j = true then (1 : Int) else 0) ≤ 1; split <;> omega)
        show 0 ≤ (sm d fun l => (if unF t f m N i l = true then (1 : Int) else 0)) ∧ (sm d fun l => (if unF t f m N i l = true then (1 : Int) else 0)) ≤ 4
        omega)
      have hk4 : (4 : Int) * k ≤ 16 := by omega
      obtain ⟨s1, hsx1⟩ : ∃ s, (sm k fun k => sm d fun l => (if unF t f m N k l = true then (1 : Int) else 0)) = s := ⟨_, rfl⟩
      rw [hsx1] at hzb ⊢
      have HSX := Lib.hid hsx1
      by_cases hlt : k < q
      · have hki : (k : Int) < (q : Int) := by omega
        clear hb5 hsx1 hk4
        have hzb : 0 ≤ s1 ∧ s1 ≤ 16 := by omega
        go_wp2
        go_loopw [9, 11] (fun x i wr' => ∃ p : Nat, p ≤ d ∧ i = .int .i64 p ∧ x = .int .i64 (s1 + (sm p fun l => (if unF t f m N k l = true then (1 : Int) else 0))) ∧ Below w2.heap.size w2 wr') (fun _ i _ => d - (intOf i).toNat)
        case atStart => exact ⟨0, Nat.zero_le _, rfl, by simp [sm], HB5.out⟩
        case round =>
          obtain ⟨p, hp, rfl, rfl, hb6⟩ := hrel
          have HB6 := Lib.hid hb6
          have r1 := (HTA.out _ hb6).2.1 k hlt
          have hzp := sm_bdC (fun l => (if unF t f m N k l = true then (1 : Int) else 0)) 1 p (fun j hj => by show 0 ≤ (if unF t f m N k j = true then (1 : Int) else 0) ∧ (if unF t f m N k j = true then (1 : Int) else 0) ≤ 1; split <;> omega)
          obtain ⟨s2, hsx2⟩ : ∃ s, (sm p fun l => (if unF t f m N k l = true then (1 : Int) else 0)) = s := ⟨_, rfl⟩
          have hs2 : (sm (p + 1) fun l => (if unF t f m N k l = true then (1 : Int) else 0)) = (sm p fun l => (if unF t f m N k l = true then (1 : Int) else 0)) + (if unF t f m N k p = true then (1 : Int) else 0) := rfl
          rw [hsx2] at hzp hs2 ⊢
          have HS2 := Lib.hid hs2
          have HSX2 := Lib.hid hsx2
          clear hsx2 hs2
          by_cases hpd : p < d
          · have hpi : (p : Int) < (d : Int) := by omega
            have hw1 : IntKind.i64.wrap (s1 + s2 + 1) = s1 + s2 + 1 := by rw [IntKind.wrap_i64] <;> omega
            have c1 := (HFA.out _ hb6).2 k p hlt hpd
            have r2 := (HFA.out _ hb6).1 k hlt
            obtain ⟨x, hx⟩ : ∃ x, hF f k p = x := ⟨_, rfl⟩
            rw [hx] at c1
            have HX := Lib.hid hx
            clear hb6 hx
            cases x
            · have HE := Lib.hid (show unF t f m N k p = false by unfold unF; rw [HX.out]; rfl)
              go_wp2
              go_roundw
              case rel => exact ⟨p + 1, by omega, by go_num, by rw [HS2.out, HE.out]; simp [Int.add_assoc], HB6.out⟩
              case measure => simp [intOf]; omega
            obtain ⟨y, hy⟩ : ∃ y, safB t m N k p = y := ⟨_, rfl⟩
            have HY := Lib.hid ((pSafe_nat HMK.out (by rw [HQ.out]; exact hlt) (by rw [HD.out]; exact hpd) hN0 hN9).trans hy)
            have HE := Lib.hid (show unF t f m N k p = !y by unfold unF; rw [HX.out, hy]; rfl)
            clear hy
            go_wp2_with fail
            refine (iPSafe_is w2 t _ HT2.out m _ HU2.out k p N y HY.out _ HB6.out HTW2.out).mono ?_
            rintro e x1 ⟨rfl, z1⟩
            clear r1 c1 r2
            cases y
            · go_wp2
              go_roundw
              case rel => exact ⟨p + 1, by omega, by go_num, by rw [HS2.out, HE.out]; simp [Int.add_assoc], z1⟩
              case measure => simp [intOf]; omega
            · go_wp2
              go_roundw
              case rel => exact ⟨p + 1, by omega, by go_num, by rw [HS2.out, HE.out]; simp [Int.add_assoc], z1⟩
              case measure => simp [intOf]; omega
          · obtain rfl : d = p := by omega
            clear hb6
            go_wp2
            go_roundw
            case rel => exact ⟨k + 1, by omega, by go_num, by
              show Value.int .i64 (s1 + s2) = Value.int .i64 ((sm k fun k => sm d fun l => (if unF t f m N k l = true then (1 : Int) else 0)) + (sm d fun l => (if unF t f m N k l = true then (1 : Int) else 0)))
              rw [HSX.out, HSX2.out], HB6.out⟩
            case measure => simp [intOf]; omega
      · obtain rfl : q = k := by omega
        clear hzb hk4
        have hgs : g = s1 := by rw [HGC.out, ← hsx1]; rfl
        subst hgs
        clear hsx1 hb5
        go_wp2_with fail
        refine (iNeed_is w2 t _ HT2.out f _ HF2.out m _ HU2.out (N + 1) g2 HG2.out _ HB5.out HTW2.out).mono ?_
        rintro e y0 ⟨rfl, k0⟩
        go_wp2_with fail
        refine (iMaskMany_is w2 f _ HF2.out H9.out M HM.out _ k0).mono ?_
        rintro e y1 ⟨rfl, k1⟩
        have hnx := HNX.out
        rcases hnx with ⟨hn1, hn2⟩ | ⟨hn1, hn2⟩
        · go_wp2
          all_goals
            go_ret
            exact ⟨by first | rfl | exact retb (by simp) | exact retb (by simp; omega), HBB.out _ k1⟩
        · subst hn1 hn2
          go_wp2
          all_goals
            go_ret
            exact ⟨by first | rfl | exact retb (by simp) | exact retb (by simp; omega), HBB.out _ k1⟩
end Go.Proofs.YtcbgihjoopjmeaaDoor
