/- A law of chapter 13: BoundMany. -/
import Derived.Test.YtpdjehiohaigfaaWN0
import Derived.Deep.RegionHeld3
import Derived.Test.YtpdjehiohaigfaaWL0
namespace Go.Proofs.Ytpdjehiohaigfaa
open Go.RowKit
set_option maxRecDepth 100000 in
set_option maxHeartbeats 4000000 in
theorem w_BoundMany (A : Option Addr) (n c : Nat) (hnc : n ≤ c) (hn : n ≤ maxLen) (w : World) (hb : Bytes w w.heap.size A n) :
    Calls Try.prog 4 #[.slice A n c] w fun e w' => e = .returned (.bool true) ∧ Below w.heap.size w w' := by
  have hn2 := hn
  unfold maxLen at hn2
  rcases (show 1048576 < n ∨ ¬ 1048576 < n by omega) with hbig | hbig
  · go_enter Try.func4, Try.ntmps4
    go_wp2
    go_ret
    exact ⟨rfl, Below.refl _ _⟩
  · go_enter Try.func4, Try.ntmps4
    go_wp2_with fail
    refine (dBoundMany_any A n c hnc hn _ hb).mono ?_
    rintro e W ⟨tv, uv, t, m, rfl, ht, hu, hl, hlr, hml, hmr, hbW⟩
    have HT := Lib.hid ht
    have HU := Lib.hid hu
    have HBW := Lib.hid hbW
    obtain ⟨g, hg⟩ : ∃ g, toldN t m = g := ⟨_, rfl⟩
    have HG := Lib.hid hg
    clear hb ht hu hbW hl hlr hml hmr hg hn
    go_wp2_with fail
    refine (iMany_is W t _ HT.out m _ HU.out g HG.out _ (Below.refl _ _)).mono ?_
    rintro e w1 ⟨rfl, b1⟩
    go_wp2_with fail
    refine (sMany_is W t _ HT.out m _ HU.out g HG.out _ b1).mono ?_
    rintro e w2 ⟨rfl, b2⟩
    by_cases hneg : g < 0
    · go_wp2
      go_ret
      exact ⟨rfl, HBW.out.trans (b2.mono HBW.out.size)⟩
    have hmk : mkOk t m = true := by
      cases e : mkOk t m
      · exfalso; have h9 := HG.out; rw [toldN, if_neg (by simp [e])] at h9; omega
      · rfl
    obtain ⟨htb, hml, hmr⟩ := mk_parts.1 hmk
    have HMK := Lib.hid hmk
    have HTB := Lib.hid htb
    have HML := Lib.hid (show m.length ≤ 1000 by have := htb.h4; omega)
    have HMR := Lib.hid (show ∀ r ∈ m, r.length ≤ 100000 from fun r hr => by have := hmr r hr; have := htb.w4; omega)
    have HMR2 := Lib.hid hmr
    have HTL := Lib.hid (show t.length ≤ 1000 by have := htb.h4; omega)
    have HTD := Lib.hid htb.len
    have HTD6 := Lib.hid (show wd t ≤ 1000 by have := htb.w4; omega)
    have HTK := Lib.hid (tab_iff.2 htb)
    have hgc : g = cnt2 t.length (wd t) (fun k l => toldB t m k l) := by rw [← HG.out, toldN, if_pos hmk]
    have hgm : g ≤ (mmany m : Nat) := by rw [← HG.out]; exact m_boundMany hmk
    clear b1
    have ht1 := htb.h1
    have ht4 := htb.h4
    have hw1 := htb.w1
    have hw4 := htb.w4
    have HT2 := Lib.hid (HT.out.below b2)
    have HU2 := Lib.hid (HU.out.below b2)
    obtain ⟨bt, ot, ct, tb, to, tc, htv, htall⟩ := HT2.out.all htb
    obtain ⟨bm, om, cm, mb, mo, mc, huv, hmall⟩ := HU2.out.all (d := wd t) (by omega) hw1 hmr
    rw [hml] at huv
    subst htv huv
    obtain ⟨q, hq⟩ : ∃ q, t.length = q := ⟨_, rfl⟩
    obtain ⟨d, hd⟩ : ∃ d, wd t = d := ⟨_, rfl⟩
    have HQ := Lib.hid hq
    have HD := Lib.hid hd
    rw [hml, hq, hd] at hmall
    rw [hq, hd] at htall
    have HTA := Lib.hid (show ∀ w', Below w2.heap.size w2 w' → w'.cell? ⟨bt, ot, none⟩ = some (.slice (some ⟨tb 0, to 0, none⟩) d (tc 0)) ∧ (∀ i, i < q → w'.cell? ⟨bt, ot + i, none⟩ = some (.slice (some ⟨tb i, to i, none⟩) d (tc i))) ∧ ∀ i j, i < q → j < d → w'.cell? ⟨tb i, to i + j, none⟩ = some (.int .i64 (cF t i j)) from
      fun w' h => ⟨(htall w' h).1 0 (by omega), htall w' h⟩)
    have HUA := Lib.hid hmall
    rw [hq] at HT2 HU2 ht1 ht4 ⊢
    rw [hd] at hw1 hw4
    rw [hq, hd] at hgc
    have hq0i : (0 : Int) < (q : Int) := by omega
    have hq0 : 0 < q := ht1
    have HB2 := Lib.hid b2
    have HBB := Lib.hid (show ∀ w', Below w2.heap.size w2 w' → Below w.heap.size w w' from fun w' h => HBW.out.trans ((below_step HB2.out h).mono HBW.out.size))
    clear htall hmall hmk hml hmr htb hq hd b2
    obtain ⟨M, hM⟩ : ∃ M : Int, ((mmany m : Nat) : Int) = M := ⟨_, rfl⟩
    rw [hM] at hgm
    have HM := Lib.hid hM
    have H9 := Lib.hid (show mmany m ≤ 1000000000 by have := mmany_bd (m := m) HML.out (fun r hr => by have := HMR2.out r hr; have := HTD6.out; omega); omega)
    have HN0 := Lib.hid (show toldN t (allM t false) = 0 by
      rw [toldN, if_pos (allM_ok HTB.out false)]
      unfold cnt2
      rw [sm_congr (g := fun _ => 0) (fun k hk => by
        rw [sm_congr (g := fun _ => 0) (fun l hl => by
          rw [if_neg]
          unfold toldB
          simp only [Int.toNat_natCast]
          rw [allM_at false hk hl]; simp)]
        exact sm_zero _)]
      exact sm_zero _)
    have HGC := Lib.hid hgc
    clear hM hgc
    go_wp2
    go_loopw [7, 8] (fun x i wr => ∃ k : Nat, k ≤ q ∧ i = .int .i64 k ∧ x = .int .i64 (sm k fun k => sm d fun l => if toldB t m k l = true then 1 else 0) ∧ Below w2.heap.size w2 wr) (fun _ i _ => q - (intOf i).toNat)
    case atStart => exact ⟨0, Nat.zero_le _, rfl, rfl, Below.refl _ _⟩
    case round =>
      obtain ⟨k, hk, rfl, rfl, hb5⟩ := hrel
      have HB5 := Lib.hid hb5
      have hzb := sm_bdC (fun k => sm d fun l => if toldB t m k l = true then (1 : Int) else 0) 4 k (fun i hi => by
        have := sm_bdC (fun l => if toldB t m i l = true then (1 : Int) else 0) 1 d (fun j hj => by show 0 ≤ (if toldB t m i j = true then (1 : Int) else 0) ∧ (if toldB t m i j = true then (1 : Int) else 0) ≤ 1; split <;> omega)
        show 0 ≤ (sm d fun l => if toldB t m i l = true then (1 : Int) else 0) ∧ (sm d fun l => if toldB t m i l = true then (1 : Int) else 0) ≤ 4
        omega)
      have hk4 : (4 : Int) * k ≤ 16 := by omega
      obtain ⟨s1, hsx1⟩ : ∃ s, (sm k fun k => sm d fun l => if toldB t m k l = true then (1 : Int) else 0) = s := ⟨_, rfl⟩
      rw [hsx1] at hzb ⊢
      have HSX := Lib.hid hsx1
      by_cases hlt : k < q
      · have hki : (k : Int) < (q : Int) := by omega
        clear hb5 hsx1 hk4
        have hzb : 0 ≤ s1 ∧ s1 ≤ 16 := by omega
        go_wp2
        go_loopw [7, 9] (fun x i wr' => ∃ p : Nat, p ≤ d ∧ i = .int .i64 p ∧ x = .int .i64 (s1 + sm p fun l => if toldB t m k l = true then 1 else 0) ∧ Below w2.heap.size w2 wr') (fun _ i _ => d - (intOf i).toNat)
        case atStart => exact ⟨0, Nat.zero_le _, rfl, by simp [sm], HB5.out⟩
        case round =>
          obtain ⟨p, hp, rfl, rfl, hb6⟩ := hrel
          have HB6 := Lib.hid hb6
          have r1 := (HTA.out _ hb6).2.1 k hlt
          have hzp := sm_bdC (fun l => if toldB t m k l = true then (1 : Int) else 0) 1 p (fun j hj => by show 0 ≤ (if toldB t m k j = true then (1 : Int) else 0) ∧ (if toldB t m k j = true then (1 : Int) else 0) ≤ 1; split <;> omega)
          obtain ⟨s2, hsx2⟩ : ∃ s, (sm p fun l => if toldB t m k l = true then (1 : Int) else 0) = s := ⟨_, rfl⟩
          have hs2 : (sm (p + 1) fun l => if toldB t m k l = true then (1 : Int) else 0) = (sm p fun l => if toldB t m k l = true then (1 : Int) else 0) + if toldB t m k p = true then 1 else 0 := rfl
          rw [hsx2] at hzp hs2 ⊢
          have HS2 := Lib.hid hs2
          have HSX2 := Lib.hid hsx2
          clear hb6 hsx2 hs2
          by_cases hpd : p < d
          · have hpi : (p : Int) < (d : Int) := by omega
            obtain ⟨f, hf⟩ : ∃ f, toldB t m k p = f := ⟨_, rfl⟩
            have HF := Lib.hid hf
            have hw1 : IntKind.i64.wrap (s1 + s2 + 1) = s1 + s2 + 1 := by rw [IntKind.wrap_i64] <;> omega
            clear hf
            go_wp2_with fail
            refine (iTold_is w2 t _ HT2.out m _ HU2.out k p f HF.out _ HB6.out).mono ?_
            rintro e x1 ⟨rfl, z1⟩
            clear r1
            have hs2 := HS2.out
            rw [HF.out] at hs2
            have HS3 := Lib.hid hs2
            clear hs2
            cases f
            · go_wp2
              go_roundw
              case rel => exact ⟨p + 1, by omega, by go_num, by rw [HS3.out]; simp, z1⟩
              case measure => simp [intOf]; omega
            · go_wp2
              go_roundw
              case rel => exact ⟨p + 1, by omega, by go_num, by rw [HS3.out]; simp [Int.add_assoc], z1⟩
              case measure => simp [intOf]; omega
          · obtain rfl : d = p := by omega
            go_wp2
            go_roundw
            case rel => exact ⟨k + 1, by omega, by go_num, by
              show Value.int .i64 (s1 + s2) = Value.int .i64 ((sm k fun k => sm d fun l => if toldB t m k l = true then (1 : Int) else 0) + sm d fun l => if toldB t m k l = true then (1 : Int) else 0)
              rw [HSX.out, HSX2.out], HB6.out⟩
            case measure => simp [intOf]; omega
      · obtain rfl : q = k := by omega
        have hgs : g = s1 := by rw [HGC.out, ← hsx1]; rfl
        subst hgs
        clear hzb hk4 hsx1
        go_wp2_with fail
        refine (iMaskMany_is w2 m _ HU2.out H9.out M HM.out _ HB5.out).mono ?_
        rintro e x1 ⟨rfl, z1⟩
        go_wp2_with fail
        refine (lAll_is w2 t _ HT2.out (wd t) HTL.out HTD.out HTD6.out false (allM t false) rfl _ z1).mono ?_
        rintro e x2 ⟨v4, rfl, ho4, h4⟩
        have HV4 := Lib.hid ho4.is
        have z2 := below_step z1 h4
        have HT4 := Lib.hid (HT2.out.below z2)
        clear ho4
        go_wp2_with fail
        refine (iMany_is x2 t _ HT4.out (allM t false) _ HV4.out 0 HN0.out _ (Below.refl _ _)).mono ?_
        rintro e x3 ⟨rfl, h5⟩
        have z3 := below_step z2 h5
        go_wp2
        go_ret
        exact ⟨by first | rfl | exact retb (by simp) | exact retb (by simp; omega), HBB.out _ z3⟩
end Go.Proofs.Ytpdjehiohaigfaa
