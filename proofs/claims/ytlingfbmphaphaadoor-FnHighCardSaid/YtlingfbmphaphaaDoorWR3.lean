/- Laws of chapter 21: all lots. -/
import Derived.Test.YtlingfbmphaphaaDoorIRN3
import Derived.Test.YtlingfbmphaphaaDoorDRN
import Derived.Test.YtlingfbmphaphaaDoorRQ
namespace Go.Proofs.YtlingfbmphaphaaDoor
open Go.RowKit
set_option maxHeartbeats 4000000 in
theorem w_Low (A : Option Addr) (n c : Nat) (hnc : n ≤ c) (hn : n ≤ maxLen) (w : World) (hb : Bytes w w.heap.size A n) (a9 : Addr) (hE : ErrW a9 w) :
    Calls Tryd.prog 8 #[.slice A n c] w fun e w' => e = .returned (.bool true) ∧ Below w.heap.size w w' := by
  have hn2 := hn
  unfold maxLen at hn2
  by_cases hbig : 1048576 < n
  · go_enter Tryd.func8, Tryd.ntmps8
    go_wp2
    go_ret
    exact ⟨rfl, Below.refl _ _⟩
  · go_enter Tryd.func8, Tryd.ntmps8
    go_wp2_with fail
    refine (dLow_any A n c hnc hn w hb).mono ?_
    rintro e W ⟨x, b, rfl, ⟨hx0, hx1⟩, ⟨hb0, hb1⟩, hbW⟩
    have HE := Lib.hid (hE.below hbW)
    have HBW := Lib.hid hbW
    obtain ⟨g, hg⟩ : ∃ g, rLow x b = g := ⟨_, rfl⟩
    have HG := Lib.hid hg
    clear hE hb hbW
    go_wp2_with fail
    refine (iLow_is x b g HG.out a9 W HE.out).mono ?_
    rintro e w' ⟨rfl, rfl⟩
    go_wp2_with fail
    refine (sLow_is x b g HG.out W).mono ?_
    rintro e w' ⟨rfl, rfl⟩
    by_cases hneg : g < 0
    · clear hg
      go_wp2
      go_ret
      exact ⟨rfl, HBW.out⟩
    · obtain ⟨⟨h0, h1, h2, h3⟩, hm⟩ := rMul_iff.1 (rLow_neg.1 (by rw [hg]; exact hneg))
      have hbz : (b == 0) = false := by rw [beq_eq_false_iff_ne]; omega
      have hbn : ¬ b = 0 := by omega
      have p := p178a h0 h1 h2 h3 hm
      rw [hg] at p
      have HEND := Lib.hid (show ∀ k : Nat, (k : Int) = b → fndB g b x k = true from fun k hk => by have := fndB_ends h2 (.inl p); rw [show k = b.toNat by omega]; exact this)
      have HNE := Lib.hid (show ∀ l : Nat, (l : Int) < b → rDrw (g - 1) b l ≠ x from fun l hl => by
          by_cases hz : g = 0
          · subst hz
            rw [rDrw_eq, if_neg (by omega)]; omega
          · have := p178b (l := (l : Int)) h0 h1 h2 h3 hm (by omega) (by omega) (by rw [hg]; exact hz)
            rw [hg] at this; exact this)
      have hg9 : -1 ≤ g ∧ g ≤ 10000 := by rw [← hg]; exact rLow_bd x b
      have hw7 : IntKind.i64.wrap (g - 1) = g - 1 := IntWalk.i64_in _ (by omega)
      clear hg p hm
      go_wp2
      go_loopw [7, 8, 9] (fun ff ss i wr => ∃ k : Nat, (k : Int) ≤ b ∧ i = .int .i64 k ∧ ff = .bool (fndB (g) b x k) ∧ ss = .bool false ∧ wr = W) (fun ff ss i _ => b.toNat - (intOf i).toNat)
      case atStart => exact ⟨0, by omega, rfl, rfl, rfl, rfl⟩
      case round =>
        obtain ⟨k, hk, rfl, rfl, rfl, rfl⟩ := hrel
        by_cases hkb : (k : Int) < b
        · obtain ⟨z, hz⟩ : ∃ z, rDrw (g) b k = z := ⟨_, rfl⟩
          have HZ := Lib.hid hz
          have hwk : IntKind.i64.wrap ((k : Int) + 1) = (k : Int) + 1 := IntWalk.i64_in _ (by omega)
          have hst : fndB (g) b x (k + 1) = (fndB (g) b x k || decide (z = x)) := by rw [← hz]; rfl
          have HST := Lib.hid hst
          clear hz hst
          obtain ⟨z2, hz2⟩ : ∃ z, rDrw (g - 1) b k = z := ⟨_, rfl⟩
          have HZ2 := Lib.hid hz2
          have hne2 : (z2 == x) = false := by rw [beq_eq_false_iff_ne, ← hz2]; exact HNE.out k hkb
          clear hz2
          obtain ⟨fl, hfl⟩ : ∃ fl, fndB (g) b x k = fl := ⟨_, rfl⟩
          have HFL := Lib.hid hfl
          rw [hfl]
          clear hfl
          cases fl
          · go_wp2_with fail
            refine (iDrw_is (g) b k z HZ.out a9 wr HE.out).mono ?_
            rintro e w' ⟨rfl, rfl⟩
            go_wp2_with fail
            refine (iDrw_is (g - 1) b k z2 HZ2.out a9 wr HE.out).mono ?_
            rintro e w' ⟨rfl, rfl⟩
            go_wp2
            go_roundw
            case rel => exact ⟨k + 1, by omega, by go_num, congrArg Value.bool (by rw [HST.out, HFL.out, Bool.eq_iff_iff]; simp), rfl, trivial⟩
            case measure => simp [intOf]; omega
          · skip
            go_wp2_with fail
            refine (iDrw_is (g - 1) b k z2 HZ2.out a9 wr HE.out).mono ?_
            rintro e w' ⟨rfl, rfl⟩
            go_wp2
            go_roundw
            case rel => exact ⟨k + 1, by omega, by go_num, congrArg Value.bool (by rw [HST.out, HFL.out, Bool.eq_iff_iff]; simp), rfl, trivial⟩
            case measure => simp [intOf]; omega
        · obtain rfl : (k : Int) = b := by omega
          have hend : fndB (g) k x k = true := HEND.out k rfl
          rw [hend]
          clear hkb hk hend
          go_wp2
          all_goals
            go_ret
            exact ⟨by first | rfl | exact retb (by simp) | exact retb (by simp; omega), HBW.out⟩
set_option maxHeartbeats 4000000 in
theorem w_High (A : Option Addr) (n c : Nat) (hnc : n ≤ c) (hn : n ≤ maxLen) (w : World) (hb : Bytes w w.heap.size A n) (a9 : Addr) (hE : ErrW a9 w) :
    Calls Tryd.prog 9 #[.slice A n c] w fun e w' => e = .returned (.bool true) ∧ Below w.heap.size w w' := by
  have hn2 := hn
  unfold maxLen at hn2
  by_cases hbig : 1048576 < n
  · go_enter Tryd.func9, Tryd.ntmps9
    go_wp2
    go_ret
    exact ⟨rfl, Below.refl _ _⟩
  · go_enter Tryd.func9, Tryd.ntmps9
    go_wp2_with fail
    refine (dHigh_any A n c hnc hn w hb).mono ?_
    rintro e W ⟨x, b, rfl, ⟨hx0, hx1⟩, ⟨hb0, hb1⟩, hbW⟩
    have HE := Lib.hid (hE.below hbW)
    have HBW := Lib.hid hbW
    obtain ⟨g, hg⟩ : ∃ g, rHigh x b = g := ⟨_, rfl⟩
    have HG := Lib.hid hg
    clear hE hb hbW
    go_wp2_with fail
    refine (iHigh_is x b g HG.out a9 W HE.out).mono ?_
    rintro e w' ⟨rfl, rfl⟩
    go_wp2_with fail
    refine (sHigh_is x b g HG.out W).mono ?_
    rintro e w' ⟨rfl, rfl⟩
    by_cases hneg : g < 0
    · clear hg
      go_wp2
      go_ret
      exact ⟨rfl, HBW.out⟩
    · obtain ⟨⟨h0, h1, h2, h3⟩, hm⟩ := rMul_iff.1 (rHigh_neg.1 (by rw [hg]; exact hneg))
      have hbz : (b == 0) = false := by rw [beq_eq_false_iff_ne]; omega
      have hbn : ¬ b = 0 := by omega
      have p := p179a h0 h1 h2 h3 hm
      rw [hg] at p
      have HEND := Lib.hid (show ∀ k : Nat, (k : Int) = b → fndB g b x k = true from fun k hk => by have := fndB_ends h2 (.inr p); rw [show k = b.toNat by omega]; exact this)
      have HNE := Lib.hid (show ∀ l : Nat, (l : Int) < b → rDrw (g + 1) b l ≠ x from fun l hl => by
          have := p179b (l := (l : Int)) h0 h1 h2 h3 hm (by omega) (by omega)
          rw [hg] at this; exact this)
      have hg9 : -1 ≤ g ∧ g ≤ 10000 := by rw [← hg]; exact rHigh_bd x b
      have hw7 : IntKind.i64.wrap (g + 1) = g + 1 := IntWalk.i64_in _ (by omega)
      clear hg p hm
      go_wp2
      go_loopw [7, 8, 9] (fun ff ss i wr => ∃ k : Nat, (k : Int) ≤ b ∧ i = .int .i64 k ∧ ff = .bool (fndB (g) b x k) ∧ ss = .bool false ∧ wr = W) (fun ff ss i _ => b.toNat - (intOf i).toNat)
      case atStart => exact ⟨0, by omega, rfl, rfl, rfl, rfl⟩
      case round =>
        obtain ⟨k, hk, rfl, rfl, rfl, rfl⟩ := hrel
        by_cases hkb : (k : Int) < b
        · obtain ⟨z, hz⟩ : ∃ z, rDrw (g) b k = z := ⟨_, rfl⟩
          have HZ := Lib.hid hz
          have hwk : IntKind.i64.wrap ((k : Int) + 1) = (k : Int) + 1 := IntWalk.i64_in _ (by omega)
          have hst : fndB (g) b x (k + 1) = (fndB (g) b x k || decide (z = x)) := by rw [← hz]; rfl
          have HST := Lib.hid hst
          clear hz hst
          obtain ⟨z2, hz2⟩ : ∃ z, rDrw (g + 1) b k = z := ⟨_, rfl⟩
          have HZ2 := Lib.hid hz2
          have hne2 : (z2 == x) = false := by rw [beq_eq_false_iff_ne, ← hz2]; exact HNE.out k hkb
          clear hz2
          obtain ⟨fl, hfl⟩ : ∃ fl, fndB (g) b x k = fl := ⟨_, rfl⟩
          have HFL := Lib.hid hfl
          rw [hfl]
          clear hfl
          cases fl
          · go_wp2_with fail
            refine (iDrw_is (g) b k z HZ.out a9 wr HE.out).mono ?_
            rintro e w' ⟨rfl, rfl⟩
            go_wp2_with fail
            refine (iDrw_is (g + 1) b k z2 HZ2.out a9 wr HE.out).mono ?_
            rintro e w' ⟨rfl, rfl⟩
            go_wp2
            go_roundw
            case rel => exact ⟨k + 1, by omega, by go_num, congrArg Value.bool (by rw [HST.out, HFL.out, Bool.eq_iff_iff]; simp), rfl, trivial⟩
            case measure => simp [intOf]; omega
          · skip
            go_wp2_with fail
            refine (iDrw_is (g + 1) b k z2 HZ2.out a9 wr HE.out).mono ?_
            rintro e w' ⟨rfl, rfl⟩
            go_wp2
            go_roundw
            case rel => exact ⟨k + 1, by omega, by go_num, congrArg Value.bool (by rw [HST.out, HFL.out, Bool.eq_iff_iff]; simp), rfl, trivial⟩
            case measure => simp [intOf]; omega
        · obtain rfl : (k : Int) = b := by omega
          have hend : fndB (g) k x k = true := HEND.out k rfl
          rw [hend]
          clear hkb hk hend
          go_wp2
          all_goals
            go_ret
            exact ⟨by first | rfl | exact retb (by simp) | exact retb (by simp; omega), HBW.out⟩
end Go.Proofs.YtlingfbmphaphaaDoor
