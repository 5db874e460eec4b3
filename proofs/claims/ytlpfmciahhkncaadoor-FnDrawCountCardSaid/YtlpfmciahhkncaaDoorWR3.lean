/- Laws of chapter 21: all lots. -/
import Derived.Test.YtlpfmciahhkncaaDoorIRN3
import Derived.Test.YtlpfmciahhkncaaDoorDRN
import Derived.Test.YtlpfmciahhkncaaDoorRQ
namespace Go.Proofs.YtlpfmciahhkncaaDoor
open Go.RowKit
set_option maxHeartbeats 4000000 in
theorem w_NearDraw (A : Option Addr) (n c : Nat) (hnc : n ≤ c) (hn : n ≤ maxLen) (w : World) (hb : Bytes w w.heap.size A n) (a9 : Addr) (hE : ErrW a9 w) :
    Calls Tryd.prog 7 #[.slice A n c] w fun e w' => e = .returned (.bool true) ∧ Below w.heap.size w w' := by
  have hn2 := hn
  unfold maxLen at hn2
  by_cases hbig : 1048576 < n
  · go_enter Tryd.func7, Tryd.ntmps7
    go_wp2
    go_ret
    exact ⟨rfl, Below.refl _ _⟩
  · go_enter Tryd.func7, Tryd.ntmps7
    go_wp2_with fail
    refine (dNear_any A n c hnc hn w hb).mono ?_
    rintro e W ⟨x, b, rfl, ⟨hx0, hx1⟩, ⟨hb0, hb1⟩, hbW⟩
    have HE := Lib.hid (hE.below hbW)
    have HBW := Lib.hid hbW
    obtain ⟨g, hg⟩ : ∃ g, rNear x b = g := ⟨_, rfl⟩
    have HG := Lib.hid hg
    clear hE hb hbW
    go_wp2_with fail
    refine (iNear_is x b g HG.out a9 W HE.out).mono ?_
    rintro e w' ⟨rfl, rfl⟩
    go_wp2_with fail
    refine (sNear_is x b g HG.out W).mono ?_
    rintro e w' ⟨rfl, rfl⟩
    by_cases hneg : g < 0
    · clear hg
      go_wp2
      go_ret
      exact ⟨rfl, HBW.out⟩
    · obtain ⟨h0, h1, h2, h3⟩ := rOk_iff.1 (rNear_neg.1 (by rw [hg]; exact hneg))
      have hbz : (b == 0) = false := by rw [beq_eq_false_iff_ne]; omega
      have hbn : ¬ b = 0 := by omega
      have p := p187 h0 h1 h2 h3
      rw [hg] at p
      have HEND := Lib.hid (show ∀ k : Nat, (k : Int) = b → fndB x b g k = true from fun k hk => by have := fndB_ends h2 p; rw [show k = b.toNat by omega]; exact this)
      clear hg p
      go_wp2
      go_loopw [7, 8] (fun ff i wr => ∃ k : Nat, (k : Int) ≤ b ∧ i = .int .i64 k ∧ ff = .bool (fndB (x) b g k) ∧ wr = W) (fun ff i _ => b.toNat - (intOf i).toNat)
      case atStart => exact ⟨0, by omega, rfl, rfl, rfl⟩
      case round =>
        obtain ⟨k, hk, rfl, rfl, rfl⟩ := hrel
        by_cases hkb : (k : Int) < b
        · obtain ⟨z, hz⟩ : ∃ z, rDrw (x) b k = z := ⟨_, rfl⟩
          have HZ := Lib.hid hz
          have hwk : IntKind.i64.wrap ((k : Int) + 1) = (k : Int) + 1 := IntWalk.i64_in _ (by omega)
          have hst : fndB (x) b g (k + 1) = (fndB (x) b g k || decide (z = g)) := by rw [← hz]; rfl
          have HST := Lib.hid hst
          clear hz hst
          obtain ⟨fl, hfl⟩ : ∃ fl, fndB (x) b g k = fl := ⟨_, rfl⟩
          have HFL := Lib.hid hfl
          rw [hfl]
          clear hfl
          cases fl
          · go_wp2_with fail
            refine (iDrw_is (x) b k z HZ.out a9 wr HE.out).mono ?_
            rintro e w' ⟨rfl, rfl⟩
            go_wp2
            go_roundw
            case rel => exact ⟨k + 1, by omega, by go_num, congrArg Value.bool (by rw [HST.out, HFL.out, Bool.eq_iff_iff]; simp), trivial⟩
            case measure => simp [intOf]; omega
          · skip
            go_wp2
            go_roundw
            case rel => exact ⟨k + 1, by omega, by go_num, congrArg Value.bool (by rw [HST.out, HFL.out, Bool.eq_iff_iff]; simp), trivial⟩
            case measure => simp [intOf]; omega
        · obtain rfl : (k : Int) = b := by omega
          have hend : fndB (x) k g k = true := HEND.out k rfl
          rw [hend]
          clear hkb hk hend
          go_wp2
          go_ret
          exact ⟨by first | rfl | exact retb (by simp) | exact retb (by simp; omega), HBW.out⟩
set_option maxHeartbeats 4000000 in
theorem w_RangeMultiple (A : Option Addr) (n c : Nat) (hnc : n ≤ c) (hn : n ≤ maxLen) (A2 : Option Addr) (m c2 : Nat) (_hmc : m ≤ c2) (hm : m ≤ maxLen) (w : World) (hb : Bytes w w.heap.size A n) (_hb2 : Bytes w w.heap.size A2 m) (a9 : Addr) (hE : ErrW a9 w) :
    Calls Tryd.prog 5 #[.slice A n c, .slice A2 m c2] w fun e w' => e = .returned (.bool true) ∧ Below w.heap.size w w' := by
  have hn2 := hn
  have hm2 := hm
  unfold maxLen at hn2 hm2
  rcases (show 1048576 < n ∨ (¬ 1048576 < n ∧ 1048576 < m) ∨ ¬ 1048576 < n ∧ ¬ 1048576 < m by omega) with hbig | ⟨hbig, hbig2⟩ | ⟨hbig, hbig2⟩
  · go_enter Tryd.func5, Tryd.ntmps5
    go_wp2
    go_ret
    exact ⟨rfl, Below.refl _ _⟩
  · go_enter Tryd.func5, Tryd.ntmps5
    go_wp2
    go_ret
    exact ⟨rfl, Below.refl _ _⟩
  · go_enter Tryd.func5, Tryd.ntmps5
    go_wp2_with fail
    refine (dLow_any A n c hnc hn w hb).mono ?_
    rintro e W ⟨x, b, rfl, ⟨hx0, hx1⟩, ⟨hb0, hb1⟩, hbW⟩
    have HE := Lib.hid (hE.below hbW)
    have HBW := Lib.hid hbW
    obtain ⟨g, hg⟩ : ∃ g, rLow x b = g := ⟨_, rfl⟩
    have HG := Lib.hid hg
    clear hE hb hbW
    go_wp2_with fail
    refine (iLow_is x b g HG.out a9 W HE.out).mono ?_
    rintro e w' ⟨rfl, rfl⟩
    go_wp2_with fail
    refine (sLow_is x b g HG.out W).mono ?_
    rintro e w' ⟨rfl, rfl⟩
    by_cases hneg : g < 0
    · clear hg
      go_wp2
      go_ret
      exact ⟨rfl, HBW.out⟩
    · obtain ⟨⟨h0, h1, h2, h3⟩, hm⟩ := rMul_iff.1 (rLow_neg.1 (by rw [hg]; exact hneg))
      have hbz : (b == 0) = false := by rw [beq_eq_false_iff_ne]; omega
      have hbn : ¬ b = 0 := by omega
      obtain ⟨q, hq⟩ : ∃ q, rHigh x b = q := ⟨_, rfl⟩
      have HQ := Lib.hid hq
      have hg9 : -1 ≤ g ∧ g ≤ 10000 := by rw [← hg]; exact rLow_bd x b
      have hq9 : -1 ≤ q ∧ q ≤ 10000 := by rw [← hq]; exact rHigh_bd x b
      have hgq : g ≤ x ∧ x ≤ q := by
        have h7 : rMul x b = true := rMul_iff.2 ⟨⟨h0, h1, h2, h3⟩, hm⟩
        rw [← hg, ← hq, rLow, rHigh, if_pos h7, if_pos h7]; omega
      obtain ⟨j, hj⟩ : ∃ j, (m : Int) % (q - g + 1) = j := ⟨_, rfl⟩
      have hj9 : 0 ≤ j ∧ j < q - g + 1 := by rw [← hj]; exact ⟨Int.emod_nonneg _ (by omega), Int.emod_lt_of_pos _ (by omega)⟩
      have hj2 := tmod_of (x := (m : Int)) (by omega) hj
      have p := p185 (x := g + j) h0 h1 h2 h3 hm (by rw [hg]; omega) (by rw [hq]; omega)
      obtain ⟨p, _, _⟩ := p
      have HEND := Lib.hid (show ∀ k : Nat, (k : Int) = b → fndB (g + j) b x k = true from fun k hk => by have := fndB_ends h2 p; rw [show k = b.toNat by omega]; exact this)
      have hw1 : IntKind.i64.wrap (q - g) = q - g := IntWalk.i64_in _ (by omega)
      have hw2 : IntKind.i64.wrap (q - g + 1) = q - g + 1 := IntWalk.i64_in _ (by omega)
      have hw3 : IntKind.i64.wrap (g + j) = g + j := IntWalk.i64_in _ (by omega)
      have hd0 : (q - g + 1 == 0) = false := by rw [beq_eq_false_iff_ne]; omega
      have hdn : ¬ q - g + 1 = 0 := by omega
      obtain ⟨hgx, hxq⟩ := hgq
      clear hg hq hm p hj
      go_wp2_with fail
      refine (iHigh_is x b q HQ.out a9 W HE.out).mono ?_
      rintro e w' ⟨rfl, rfl⟩
      go_wp2
      go_loopw [11, 12] (fun ff i wr => ∃ k : Nat, (k : Int) ≤ b ∧ i = .int .i64 k ∧ ff = .bool (fndB (g + j) b x k) ∧ wr = W) (fun ff i _ => b.toNat - (intOf i).toNat)
      case atStart => exact ⟨0, by omega, rfl, rfl, rfl⟩
      case round =>
        obtain ⟨k, hk, rfl, rfl, rfl⟩ := hrel
        by_cases hkb : (k : Int) < b
        · obtain ⟨z, hz⟩ : ∃ z, rDrw (g + j) b k = z := ⟨_, rfl⟩
          have HZ := Lib.hid hz
          have hwk : IntKind.i64.wrap ((k : Int) + 1) = (k : Int) + 1 := IntWalk.i64_in _ (by omega)
          have hst : fndB (g + j) b x (k + 1) = (fndB (g + j) b x k || decide (z = x)) := by rw [← hz]; rfl
          have HST := Lib.hid hst
          clear hz hst
          obtain ⟨fl, hfl⟩ : ∃ fl, fndB (g + j) b x k = fl := ⟨_, rfl⟩
          have HFL := Lib.hid hfl
          rw [hfl]
          clear hfl
          cases fl
          · go_wp2_with fail
            refine (iDrw_is (g + j) b k z HZ.out a9 wr HE.out).mono ?_
            rintro e w' ⟨rfl, rfl⟩
            go_wp2
            go_roundw
            case rel => exact ⟨k + 1, by omega, by go_num, congrArg Value.bool (by rw [HST.out, HFL.out, Bool.eq_iff_iff]; simp), trivial⟩
            case measure => simp [intOf]; omega
          · skip
            go_wp2
            go_roundw
            case rel => exact ⟨k + 1, by omega, by go_num, congrArg Value.bool (by rw [HST.out, HFL.out, Bool.eq_iff_iff]; simp), trivial⟩
            case measure => simp [intOf]; omega
        · obtain rfl : (k : Int) = b := by omega
          have hend : fndB (g + j) k x k = true := HEND.out k rfl
          rw [hend]
          clear hkb hk hend
          go_wp2
          go_ret
          exact ⟨by first | rfl | exact retb (by simp) | exact retb (by simp; omega), HBW.out⟩
set_option maxHeartbeats 4000000 in
theorem w_DrawMean (A : Option Addr) (n c : Nat) (hnc : n ≤ c) (hn : n ≤ maxLen) (w : World) (hb : Bytes w w.heap.size A n) (a9 : Addr) (hE : ErrW a9 w) :
    Calls Tryd.prog 3 #[.slice A n c] w fun e w' => e = .returned (.bool true) ∧ Below w.heap.size w w' := by
  have hn2 := hn
  unfold maxLen at hn2
  by_cases hbig : 1048576 < n
  · go_enter Tryd.func3, Tryd.ntmps3
    go_wp2
    go_ret
    exact ⟨rfl, Below.refl _ _⟩
  · go_enter Tryd.func3, Tryd.ntmps3
    go_wp2_with fail
    refine (dDraw_any A n c hnc hn w hb).mono ?_
    rintro e W ⟨x, b, l, rfl, ⟨hx0, hx1⟩, ⟨hb0, hb1⟩, ⟨hl0, hl1⟩, hbW⟩
    have HE := Lib.hid (hE.below hbW)
    have HBW := Lib.hid hbW
    obtain ⟨g, hg⟩ : ∃ g, rDrw x b l = g := ⟨_, rfl⟩
    have HG := Lib.hid hg
    clear hE hb hbW
    go_wp2_with fail
    refine (iDrw_is x b l g HG.out a9 W HE.out).mono ?_
    rintro e w' ⟨rfl, rfl⟩
    go_wp2_with fail
    refine (sDrw_is x b l g HG.out W).mono ?_
    rintro e w' ⟨rfl, rfl⟩
    by_cases hneg : g < 0
    · clear hg
      go_wp2
      go_ret
      exact ⟨rfl, HBW.out⟩
    · obtain ⟨⟨h0, h1, h2, h3⟩, h4, h5⟩ := rDrwOk_iff.1 (rDrw_neg.1 (by rw [hg]; exact hneg))
      have hbz : (b == 0) = false := by rw [beq_eq_false_iff_ne]; omega
      have hbn : ¬ b = 0 := by omega
      have p := p176 h0 h1 h2 h3
      have HEND := Lib.hid (show ∀ k : Nat, (k : Int) = b → sumDrw x b k = x * b from fun k hk => by rw [show k = b.toNat by omega]; exact p)
      have hxb : 0 ≤ x * b := Int.mul_nonneg h0 (by omega)
      have hxb2 : x * b ≤ 10000 * 20 := Int.mul_le_mul h1 h3 (by omega) (by omega)
      obtain ⟨u, hu⟩ : ∃ u, x * b = u := ⟨_, rfl⟩
      have HU := Lib.hid hu
      have hwu : IntKind.i64.wrap u = u := by rw [hu] at hxb hxb2; exact IntWalk.i64_in _ (by omega)
      rw [hu] at hxb hxb2
      clear hg p hu
      go_wp2
      go_loopw [8, 9] (fun ss i wr => ∃ k : Nat, (k : Int) ≤ b ∧ i = .int .i64 k ∧ ss = .int .i64 (sumDrw x b k) ∧ wr = W) (fun _ i _ => b.toNat - (intOf i).toNat)
      case atStart => exact ⟨0, by omega, rfl, rfl, rfl⟩
      case round =>
        obtain ⟨k, hk, rfl, rfl, rfl⟩ := hrel
        by_cases hkb : (k : Int) < b
        · obtain ⟨z, hz⟩ : ∃ z, rDrw x b k = z := ⟨_, rfl⟩
          have HZ := Lib.hid hz
          have hwk : IntKind.i64.wrap ((k : Int) + 1) = (k : Int) + 1 := IntWalk.i64_in _ (by omega)
          obtain ⟨s, hs⟩ : ∃ s, sumDrw x b k = s := ⟨_, rfl⟩
          have hs9 := sumDrw_bd x b k
          have hz9 := rDrw_bd x b k
          have hst : sumDrw x b (k + 1) = s + z := by rw [← hs, ← hz]; rfl
          have HST := Lib.hid hst
          rw [hz] at hz9
          rw [hs] at hs9 ⊢
          have hws : IntKind.i64.wrap (s + z) = s + z := IntWalk.i64_in _ (by omega)
          clear hz hs hst
          go_wp2_with fail
          refine (iDrw_is x b k z HZ.out a9 wr HE.out).mono ?_
          rintro e w' ⟨rfl, rfl⟩
          go_wp2
          go_roundw
          case rel => exact ⟨k + 1, by omega, by go_num, by rw [HST.out], trivial⟩
          case measure => simp [intOf]; omega
        · obtain rfl : (k : Int) = b := by omega
          obtain ⟨s, hs⟩ : ∃ s, sumDrw x (k : Int) k = s := ⟨_, rfl⟩
          have hsx := HEND.out k rfl
          rw [hs] at hsx ⊢
          clear hkb hk hs
          have hsu : s = u := hsx.trans HU.out
          subst hsu
          have HU2 := HU
          clear hsx
          have hxk : IntKind.i64.wrap (x * (k : Int)) = s := by rw [HU2.out]; exact hwu
          go_wp2
          go_ret
          exact ⟨by first | rfl | exact retb (by simp) | exact retb (by simp; omega), HBW.out⟩
set_option maxHeartbeats 4000000 in
theorem w_DrawCount (A : Option Addr) (n c : Nat) (hnc : n ≤ c) (hn : n ≤ maxLen) (w : World) (hb : Bytes w w.heap.size A n) (a9 : Addr) (hE : ErrW a9 w) :
    Calls Tryd.prog 4 #[.slice A n c] w fun e w' => e = .returned (.bool true) ∧ Below w.heap.size w w' := by
  have hn2 := hn
  unfold maxLen at hn2
  by_cases hbig : 1048576 < n
  · go_enter Tryd.func4, Tryd.ntmps4
    go_wp2
    go_ret
    exact ⟨rfl, Below.refl _ _⟩
  · go_enter Tryd.func4, Tryd.ntmps4
    go_wp2_with fail
    refine (dDraw_any A n c hnc hn w hb).mono ?_
    rintro e W ⟨x, b, l, rfl, ⟨hx0, hx1⟩, ⟨hb0, hb1⟩, ⟨hl0, hl1⟩, hbW⟩
    have HE := Lib.hid (hE.below hbW)
    have HBW := Lib.hid hbW
    obtain ⟨g, hg⟩ : ∃ g, rDrw x b l = g := ⟨_, rfl⟩
    have HG := Lib.hid hg
    clear hE hb hbW
    go_wp2_with fail
    refine (iDrw_is x b l g HG.out a9 W HE.out).mono ?_
    rintro e w' ⟨rfl, rfl⟩
    go_wp2_with fail
    refine (sDrw_is x b l g HG.out W).mono ?_
    rintro e w' ⟨rfl, rfl⟩
    by_cases hneg : g < 0
    · clear hg
      go_wp2
      go_ret
      exact ⟨rfl, HBW.out⟩
    · obtain ⟨⟨h0, h1, h2, h3⟩, h4, h5⟩ := rDrwOk_iff.1 (rDrw_neg.1 (by rw [hg]; exact hneg))
      have hbz : (b == 0) = false := by rw [beq_eq_false_iff_ne]; omega
      have hbn : ¬ b = 0 := by omega
      have p := p184 h0 h1 h2 h3
      have HEND := Lib.hid (show ∀ k : Nat, (k : Int) = b → (cntDrw x b k : Int) = x % b from fun k hk => by rw [show k = b.toNat by omega]; exact p)
      obtain ⟨r, hr⟩ : ∃ r, x % b = r := ⟨_, rfl⟩
      have hrt := tmod_of h0 hr
      have HR := Lib.hid hr
      clear hg p
      go_wp2
      go_loopw [8, 9] (fun ss i wr => ∃ k : Nat, (k : Int) ≤ b ∧ i = .int .i64 k ∧ ss = .int .i64 ((cntDrw x b k : Nat)) ∧ wr = W) (fun _ i _ => b.toNat - (intOf i).toNat)
      case atStart => exact ⟨0, by omega, rfl, rfl, rfl⟩
      case round =>
        obtain ⟨k, hk, rfl, rfl, rfl⟩ := hrel
        by_cases hkb : (k : Int) < b
        · obtain ⟨z, hz⟩ : ∃ z, rDrw x b k = z := ⟨_, rfl⟩
          have HZ := Lib.hid hz
          have hwk : IntKind.i64.wrap ((k : Int) + 1) = (k : Int) + 1 := IntWalk.i64_in _ (by omega)
          obtain ⟨s, hs⟩ : ∃ s, cntDrw x b k = s := ⟨_, rfl⟩
          have hs9 := cntDrw_le x b k
          have hst : cntDrw x b (k + 1) = s + if x < z then 1 else 0 := by rw [← hs, ← hz]; rfl
          rw [hs] at hs9 ⊢
          have hws : IntKind.i64.wrap ((s : Int) + 1) = (s : Int) + 1 := IntWalk.i64_in _ (by omega)
          clear hz hs
          go_wp2_with fail
          refine (iDrw_is x b k z HZ.out a9 wr HE.out).mono ?_
          rintro e w' ⟨rfl, rfl⟩
          by_cases hxz : x < z
          · have HST := Lib.hid (show cntDrw x b (k + 1) = s + 1 by rw [hst, if_pos hxz])
            clear hst
            go_wp2
            go_roundw
            case rel => exact ⟨k + 1, by omega, by go_num, by rw [HST.out]; go_num, trivial⟩
            case measure => simp [intOf]; omega
          · have HST := Lib.hid (show cntDrw x b (k + 1) = s by rw [hst, if_neg hxz]; rfl)
            clear hst
            go_wp2
            go_roundw
            case rel => exact ⟨k + 1, by omega, by go_num, by rw [HST.out], trivial⟩
            case measure => simp [intOf]; omega
        · obtain rfl : (k : Int) = b := by omega
          obtain ⟨s, hs⟩ : ∃ s, cntDrw x (k : Int) k = s := ⟨_, rfl⟩
          have hsx := HEND.out k rfl
          rw [hs] at hsx ⊢
          clear hkb hk hs
          have hsu : (s : Int) = r := hsx.trans HR.out
          subst hsu
          clear hsx
          go_wp2
          go_ret
          exact ⟨by first | rfl | exact retb (by simp) | exact retb (by simp; omega), HBW.out⟩
end Go.Proofs.YtlpfmciahhkncaaDoor
