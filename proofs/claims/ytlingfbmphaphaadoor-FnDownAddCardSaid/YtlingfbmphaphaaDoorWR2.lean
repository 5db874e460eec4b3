/- Laws of chapter 21: several calls in one expression. -/
import Derived.Test.YtlingfbmphaphaaDoorIRN3
import Derived.Test.YtlingfbmphaphaaDoorDRN
import Derived.Test.YtlingfbmphaphaaDoorRQ
namespace Go.Proofs.YtlingfbmphaphaaDoor
open Go.RowKit
set_option maxHeartbeats 4000000 in
theorem w_Range (A : Option Addr) (n c : Nat) (hnc : n ≤ c) (hn : n ≤ maxLen) (w : World) (hb : Bytes w w.heap.size A n) (a9 : Addr) (hE : ErrW a9 w) :
    Calls Tryd.prog 10 #[.slice A n c] w fun e w' => e = .returned (.bool true) ∧ Below w.heap.size w w' := by
  have hn2 := hn
  unfold maxLen at hn2
  by_cases hbig : 1048576 < n
  · go_enter Tryd.func10, Tryd.ntmps10
    go_wp2
    go_ret
    exact ⟨rfl, Below.refl _ _⟩
  · go_enter Tryd.func10, Tryd.ntmps10
    go_wp2_with fail
    refine (dDraw_any A n c hnc hn w hb).mono ?_
    rintro e W ⟨x, b, l, rfl, ⟨hx0, hx1⟩, ⟨hb0, hb1⟩, ⟨hl0, hl1⟩, hbW⟩
    have HE := Lib.hid (hE.below hbW)
    have HBW := Lib.hid hbW
    obtain ⟨g, hg⟩ : ∃ g, rDrw x b l = g := ⟨_, rfl⟩
    have HG := Lib.hid hg
    clear hE hb hbW
    go_wp2_with fail
    refine (iDrw_is x b l g HG.out a9 W HE.out).mono ?_
    rintro e w' ⟨rfl, rfl⟩
    go_wp2_with fail
    refine (sDrw_is x b l g HG.out W).mono ?_
    rintro e w' ⟨rfl, rfl⟩
    by_cases hneg : g < 0
    · clear hg
      go_wp2
      go_ret
      exact ⟨rfl, HBW.out⟩
    · obtain ⟨⟨h0, h1, h2, h3⟩, h4, h5⟩ := rDrwOk_iff.1 (rDrw_neg.1 (by rw [hg]; exact hneg))
      have hbz : (b == 0) = false := by rw [beq_eq_false_iff_ne]; omega
      have hbn : ¬ b = 0 := by omega
      have p := p180 h0 h1 h2 h3 h4 h5
      rw [hg] at p
      obtain ⟨y, hy⟩ : ∃ y, rLow g b = y := ⟨_, rfl⟩
      obtain ⟨z, hz⟩ : ∃ z, rHigh g b = z := ⟨_, rfl⟩
      rw [hy, hz] at p
      have HY := Lib.hid hy
      have HZ := Lib.hid hz
      clear hg hy hz
      by_cases hc : 10000 < g
      · clear p
        go_wp2
        go_ret
        exact ⟨by first | rfl | exact retb (by simp) | exact retb (by simp; omega), HBW.out⟩
      · have p2 : y ≤ x ∧ x ≤ z := by omega
        obtain ⟨p3, p4⟩ := p2
        clear p
        go_wp2_with fail
        refine (iLow_is g b y HY.out a9 W HE.out).mono ?_
        rintro e w' ⟨rfl, rfl⟩
        go_wp2_with fail
        refine (iHigh_is g b z HZ.out a9 W HE.out).mono ?_
        rintro e w' ⟨rfl, rfl⟩
        go_wp2
        go_ret
        exact ⟨by first | rfl | exact retb (by simp) | exact retb (by simp; omega), HBW.out⟩
set_option maxHeartbeats 4000000 in
theorem w_DownAdd (A : Option Addr) (n c : Nat) (hnc : n ≤ c) (hn : n ≤ maxLen) (A2 : Option Addr) (m c2 : Nat) (_hmc : m ≤ c2) (hm : m ≤ maxLen) (w : World) (hb : Bytes w w.heap.size A n) (_hb2 : Bytes w w.heap.size A2 m) (a9 : Addr) (hE : ErrW a9 w) :
    Calls Tryd.prog 13 #[.slice A n c, .slice A2 m c2] w fun e w' => e = .returned (.bool true) ∧ Below w.heap.size w w' := by
  have hn2 := hn
  have hm2 := hm
  unfold maxLen at hn2 hm2
  rcases (show 1048576 < n ∨ (¬ 1048576 < n ∧ 1048576 < m) ∨ ¬ 1048576 < n ∧ ¬ 1048576 < m by omega) with hbig | ⟨hbig, hbig2⟩ | ⟨hbig, hbig2⟩
  · go_enter Tryd.func13, Tryd.ntmps13
    go_wp2
    go_ret
    exact ⟨rfl, Below.refl _ _⟩
  · go_enter Tryd.func13, Tryd.ntmps13
    go_wp2
    go_ret
    exact ⟨rfl, Below.refl _ _⟩
  · go_enter Tryd.func13, Tryd.ntmps13
    go_wp2_with fail
    refine (dDown_any A n c hnc hn w hb).mono ?_
    rintro e W ⟨x, b, rfl, ⟨hx0, hx1⟩, ⟨hb0, hb1⟩, hbW⟩
    have HE := Lib.hid (hE.below hbW)
    have HBW := Lib.hid hbW
    obtain ⟨g, hg⟩ : ∃ g, rDown x b = g := ⟨_, rfl⟩
    have HG := Lib.hid hg
    clear hE hb hbW
    go_wp2_with fail
    refine (iDown_is x b g HG.out a9 W HE.out).mono ?_
    rintro e w' ⟨rfl, rfl⟩
    go_wp2_with fail
    refine (sDown_is x b g HG.out W).mono ?_
    rintro e w' ⟨rfl, rfl⟩
    by_cases hneg : g < 0
    · clear hg
      go_wp2
      go_ret
      exact ⟨rfl, HBW.out⟩
    · obtain ⟨h0, h1, h2, h3⟩ := rOk_iff.1 (rDown_neg.1 (by rw [hg]; exact hneg))
      have hbz : (b == 0) = false := by rw [beq_eq_false_iff_ne]; omega
      have hbn : ¬ b = 0 := by omega
      have hg8 := rDown_bd x b
      rw [hg] at hg8
      obtain ⟨k, hk⟩ : ∃ k, (m : Int) % b = k := ⟨_, rfl⟩
      have hk9 := mod_bd (x := (m : Int)) h2
      have hk2 := tmod_of (x := (m : Int)) (by omega) hk
      rw [hk] at hk9
      obtain ⟨hk7, hk8⟩ := hk9
      have hw1 : IntKind.i64.wrap (x + b) = x + b := IntWalk.i64_in _ (by omega)
      clear hk
      by_cases hc : 10000 < x + b
      · clear hg
        have hge : 0 ≤ g := by omega
        go_wp2
        go_ret
        exact ⟨by first | rfl | exact retb (by simp) | exact retb (by simp; omega), HBW.out⟩
      · have p := p183 (l := k) h0 h1 h2 h3 hk7 (by omega) (by omega)
        rw [hg] at p
        obtain ⟨y, hy⟩ : ∃ y, rNear x b = y := ⟨_, rfl⟩
        obtain ⟨z, hz⟩ : ∃ z, rDrw x b k = z := ⟨_, rfl⟩
        rw [hy, hz] at p
        obtain ⟨p1, p2, p3⟩ := p
        have H1 := Lib.hid p1
        have H2 := Lib.hid p2
        have H3 := Lib.hid p3
        have HY := Lib.hid hy
        have HZ := Lib.hid hz
        have hy8 := rNear_le x b
        have hy7 : 0 ≤ y := by have := rNear_neg.2 (rOk_iff.2 ⟨h0, h1, h2, h3⟩); rw [hy] at this; omega
        have hz8 := rDrw_bd x b k
        rw [hy] at hy8
        rw [hz] at hz8
        have hw2 : IntKind.i64.wrap (g + b) = g + b := IntWalk.i64_in _ (by omega)
        have hw3 : IntKind.i64.wrap (y + b) = y + b := IntWalk.i64_in _ (by omega)
        have hw4 : IntKind.i64.wrap (z + b) = z + b := IntWalk.i64_in _ (by omega)
        clear hg hy hz p1 p2 p3
        go_wp2_with fail
        refine (iDown_is (x + b) b (g + b) H1.out a9 W HE.out).mono ?_
        rintro e w' ⟨rfl, rfl⟩
        go_wp2_with fail
        refine (iNear_is (x + b) b (y + b) H2.out a9 W HE.out).mono ?_
        rintro e w' ⟨rfl, rfl⟩
        go_wp2_with fail
        refine (iNear_is x b y HY.out a9 W HE.out).mono ?_
        rintro e w' ⟨rfl, rfl⟩
        go_wp2_with fail
        refine (iDrw_is (x + b) b k (z + b) H3.out a9 W HE.out).mono ?_
        rintro e w' ⟨rfl, rfl⟩
        go_wp2_with fail
        refine (iDrw_is x b k z HZ.out a9 W HE.out).mono ?_
        rintro e w' ⟨rfl, rfl⟩
        go_wp2
        go_ret
        exact ⟨by first | rfl | exact retb (by simp) | exact retb (by simp; omega), HBW.out⟩
end Go.Proofs.YtlingfbmphaphaaDoor
