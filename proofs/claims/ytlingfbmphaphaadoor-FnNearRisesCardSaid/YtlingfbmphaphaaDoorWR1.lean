/- Laws of chapter 21: straight ones. -/
import Derived.Test.YtlingfbmphaphaaDoorIRN3
import Derived.Test.YtlingfbmphaphaaDoorDRN
import Derived.Test.YtlingfbmphaphaaDoorRQ
namespace Go.Proofs.YtlingfbmphaphaaDoor
open Go.RowKit
set_option maxHeartbeats 4000000 in
theorem w_Down (A : Option Addr) (n c : Nat) (hnc : n ≤ c) (hn : n ≤ maxLen) (w : World) (hb : Bytes w w.heap.size A n) (a9 : Addr) (hE : ErrW a9 w) :
    Calls Tryd.prog 3 #[.slice A n c] w fun e w' => e = .returned (.bool true) ∧ Below w.heap.size w w' := by
  have hn2 := hn
  unfold maxLen at hn2
  by_cases hbig : 1048576 < n
  · go_enter Tryd.func3, Tryd.ntmps3
    go_wp2
    go_ret
    exact ⟨rfl, Below.refl _ _⟩
  · go_enter Tryd.func3, Tryd.ntmps3
    go_wp2_with fail
    refine (dDown_any A n c hnc hn w hb).mono ?_
    rintro e W ⟨x, b, rfl, ⟨hx0, hx1⟩, ⟨hb0, hb1⟩, hbW⟩
    have HE := Lib.hid (hE.below hbW)
    have HBW := Lib.hid hbW
    obtain ⟨g, hg⟩ : ∃ g, rDown x b = g := ⟨_, rfl⟩
    have HG := Lib.hid hg
    clear hE hb hbW
    go_wp2_with fail
    refine (iDown_is x b g HG.out a9 W HE.out).mono ?_
    rintro e w' ⟨rfl, rfl⟩
    go_wp2_with fail
    refine (sDown_is x b g HG.out W).mono ?_
    rintro e w' ⟨rfl, rfl⟩
    by_cases hneg : g < 0
    · clear hg
      go_wp2
      go_ret
      exact ⟨rfl, HBW.out⟩
    · obtain ⟨h0, h1, h2, h3⟩ := rOk_iff.1 (rDown_neg.1 (by rw [hg]; exact hneg))
      have hbz : (b == 0) = false := by rw [beq_eq_false_iff_ne]; omega
      have hbn : ¬ b = 0 := by omega
      have p := p172 h0 h1 h2 h3
      rw [hg] at p
      obtain ⟨p1, p2, p3⟩ := p
      have p4 : g.tmod b = 0 := tmod_of (by omega) p1
      have hw1 : IntKind.i64.wrap (x - b) = x - b := IntWalk.i64_in _ (by omega)
      clear hg
      go_wp2
      go_ret
      exact ⟨by first | rfl | exact retb (by simp) | exact retb (by simp; omega), HBW.out⟩
set_option maxHeartbeats 4000000 in
theorem w_Near (A : Option Addr) (n c : Nat) (hnc : n ≤ c) (hn : n ≤ maxLen) (w : World) (hb : Bytes w w.heap.size A n) (a9 : Addr) (hE : ErrW a9 w) :
    Calls Tryd.prog 5 #[.slice A n c] w fun e w' => e = .returned (.bool true) ∧ Below w.heap.size w w' := by
  have hn2 := hn
  unfold maxLen at hn2
  by_cases hbig : 1048576 < n
  · go_enter Tryd.func5, Tryd.ntmps5
    go_wp2
    go_ret
    exact ⟨rfl, Below.refl _ _⟩
  · go_enter Tryd.func5, Tryd.ntmps5
    go_wp2_with fail
    refine (dNear_any A n c hnc hn w hb).mono ?_
    rintro e W ⟨x, b, rfl, ⟨hx0, hx1⟩, ⟨hb0, hb1⟩, hbW⟩
    have HE := Lib.hid (hE.below hbW)
    have HBW := Lib.hid hbW
    obtain ⟨g, hg⟩ : ∃ g, rNear x b = g := ⟨_, rfl⟩
    have HG := Lib.hid hg
    clear hE hb hbW
    go_wp2_with fail
    refine (iNear_is x b g HG.out a9 W HE.out).mono ?_
    rintro e w' ⟨rfl, rfl⟩
    go_wp2_with fail
    refine (sNear_is x b g HG.out W).mono ?_
    rintro e w' ⟨rfl, rfl⟩
    by_cases hneg : g < 0
    · clear hg
      go_wp2
      go_ret
      exact ⟨rfl, HBW.out⟩
    · obtain ⟨h0, h1, h2, h3⟩ := rOk_iff.1 (rNear_neg.1 (by rw [hg]; exact hneg))
      have hbz : (b == 0) = false := by rw [beq_eq_false_iff_ne]; omega
      have hbn : ¬ b = 0 := by omega
      have p := p174 h0 h1 h2 h3
      rw [hg] at p
      have hg9 : g ≤ 10020 := by rw [← hg]; exact rNear_le x b
      obtain ⟨p1, p2, p3⟩ := p
      have p4 : g.tmod b = 0 := tmod_of (by omega) p1
      obtain ⟨z, hz⟩ : ∃ z, max (g - x) (x - g) = z := ⟨_, rfl⟩
      rw [hz] at p2 p3
      have hmx : (if g - x < x - g then x - g else g - x) = z := by rw [← hz]; split <;> omega
      have hmx2 : (if x - g < g - x then g - x else x - g) = z := by rw [← hz]; split <;> omega
      have hw1 : IntKind.i64.wrap (g - x) = g - x := IntWalk.i64_in _ (by omega)
      have hw2 : IntKind.i64.wrap (x - g) = x - g := IntWalk.i64_in _ (by omega)
      have hz9 : 0 ≤ z ∧ z ≤ 20 := by omega
      have hw3 : IntKind.i64.wrap (2 * z) = 2 * z := IntWalk.i64_in _ (by omega)
      clear hg hz
      by_cases hc : 2 * z < b
      · go_wp2
        go_ret
        exact ⟨by first | rfl | exact retb (by simp) | exact retb (by simp; omega), HBW.out⟩
      · have hc2 : x < g := by omega
        go_wp2
        go_ret
        exact ⟨by first | rfl | exact retb (by simp) | exact retb (by simp; omega), HBW.out⟩
set_option maxHeartbeats 4000000 in
theorem w_NearDown (A : Option Addr) (n c : Nat) (hnc : n ≤ c) (hn : n ≤ maxLen) (w : World) (hb : Bytes w w.heap.size A n) (a9 : Addr) (hE : ErrW a9 w) :
    Calls Tryd.prog 6 #[.slice A n c] w fun e w' => e = .returned (.bool true) ∧ Below w.heap.size w w' := by
  have hn2 := hn
  unfold maxLen at hn2
  by_cases hbig : 1048576 < n
  · go_enter Tryd.func6, Tryd.ntmps6
    go_wp2
    go_ret
    exact ⟨rfl, Below.refl _ _⟩
  · go_enter Tryd.func6, Tryd.ntmps6
    go_wp2_with fail
    refine (dNear_any A n c hnc hn w hb).mono ?_
    rintro e W ⟨x, b, rfl, ⟨hx0, hx1⟩, ⟨hb0, hb1⟩, hbW⟩
    have HE := Lib.hid (hE.below hbW)
    have HBW := Lib.hid hbW
    obtain ⟨g, hg⟩ : ∃ g, rNear x b = g := ⟨_, rfl⟩
    have HG := Lib.hid hg
    clear hE hb hbW
    go_wp2_with fail
    refine (iNear_is x b g HG.out a9 W HE.out).mono ?_
    rintro e w' ⟨rfl, rfl⟩
    go_wp2_with fail
    refine (sNear_is x b g HG.out W).mono ?_
    rintro e w' ⟨rfl, rfl⟩
    by_cases hneg : g < 0
    · clear hg
      go_wp2
      go_ret
      exact ⟨rfl, HBW.out⟩
    · obtain ⟨h0, h1, h2, h3⟩ := rOk_iff.1 (rNear_neg.1 (by rw [hg]; exact hneg))
      have hbz : (b == 0) = false := by rw [beq_eq_false_iff_ne]; omega
      have hbn : ¬ b = 0 := by omega
      have p := p175 h0 h1 h2 h3
      rw [hg] at p
      obtain ⟨q, hq⟩ : ∃ q, rDown x b = q := ⟨_, rfl⟩
      rw [hq] at p
      have HQ := Lib.hid hq
      have hq9 : -1 ≤ q ∧ q ≤ 10000 := by rw [← hq]; exact rDown_bd x b
      obtain ⟨p1, p2⟩ := p
      obtain ⟨r, hr⟩ : ∃ r, x % b = r := ⟨_, rfl⟩
      rw [hr] at p2
      have hrt := tmod_of h0 hr
      have hw1 : IntKind.i64.wrap (q + b) = q + b := IntWalk.i64_in _ (by omega)
      clear hg hq
      go_wp2_with fail
      refine (iDown_is x b q HQ.out a9 W HE.out).mono ?_
      rintro e w' ⟨rfl, rfl⟩
      rcases p2 with p2 | p2
      · have p3 : (r == 0) = false := by rw [beq_eq_false_iff_ne]; exact p2
        by_cases hc : g = q
        · subst hc
          go_wp2
          go_ret
          exact ⟨by first | rfl | exact retb (by simp) | exact retb (by simp; omega), HBW.out⟩
        · have hc2 : (g == q) = false := by rw [beq_eq_false_iff_ne]; exact hc
          have hc3 : g = q + b := by omega
          subst hc3
          go_wp2
          go_ret
          exact ⟨by first | rfl | exact retb (by simp) | exact retb (by simp; omega), HBW.out⟩
      · subst p2
        by_cases hc : g = q
        · subst hc
          go_wp2
          all_goals
            go_ret
            exact ⟨by first | rfl | exact retb (by simp) | exact retb (by simp; omega), HBW.out⟩
        · have hc2 : (g == q) = false := by rw [beq_eq_false_iff_ne]; exact hc
          have hc3 : g = q + b := by omega
          have hc4 : (g == q + b) = true := by rw [beq_iff_eq]; exact hc3
          clear hc3
          go_wp2
          all_goals
            go_ret
            exact ⟨by first | rfl | exact retb (by simp) | exact retb (by simp; omega), HBW.out⟩
set_option maxHeartbeats 4000000 in
theorem w_DownRises (A : Option Addr) (n c : Nat) (hnc : n ≤ c) (hn : n ≤ maxLen) (w : World) (hb : Bytes w w.heap.size A n) (a9 : Addr) (hE : ErrW a9 w) :
    Calls Tryd.prog 4 #[.slice A n c] w fun e w' => e = .returned (.bool true) ∧ Below w.heap.size w w' := by
  have hn2 := hn
  unfold maxLen at hn2
  by_cases hbig : 1048576 < n
  · go_enter Tryd.func4, Tryd.ntmps4
    go_wp2
    go_ret
    exact ⟨rfl, Below.refl _ _⟩
  · go_enter Tryd.func4, Tryd.ntmps4
    go_wp2_with fail
    refine (dDown_any A n c hnc hn w hb).mono ?_
    rintro e W ⟨x, b, rfl, ⟨hx0, hx1⟩, ⟨hb0, hb1⟩, hbW⟩
    have HE := Lib.hid (hE.below hbW)
    have HBW := Lib.hid hbW
    obtain ⟨g, hg⟩ : ∃ g, rDown x b = g := ⟨_, rfl⟩
    have HG := Lib.hid hg
    clear hE hb hbW
    go_wp2_with fail
    refine (iDown_is x b g HG.out a9 W HE.out).mono ?_
    rintro e w' ⟨rfl, rfl⟩
    go_wp2_with fail
    refine (sDown_is x b g HG.out W).mono ?_
    rintro e w' ⟨rfl, rfl⟩
    by_cases hneg : g < 0
    · clear hg
      go_wp2
      go_ret
      exact ⟨rfl, HBW.out⟩
    · obtain ⟨h0, h1, h2, h3⟩ := rOk_iff.1 (rDown_neg.1 (by rw [hg]; exact hneg))
      have hbz : (b == 0) = false := by rw [beq_eq_false_iff_ne]; omega
      have hbn : ¬ b = 0 := by omega
      have p := p173 h0 h1 h2 h3
      rw [hg] at p
      obtain ⟨q, hq⟩ : ∃ q, rDown (x + 1) b = q := ⟨_, rfl⟩
      rw [hq] at p
      have HQ := Lib.hid hq
      have hq9 : x = 10000 → q = -1 := fun h => by rw [← hq, rDown_eq, if_neg (by omega)]
      obtain ⟨p1, p2⟩ := p
      have HP2 := Lib.hid p2
      have hg9 : -1 ≤ g ∧ g ≤ 10000 := by rw [← hg]; exact rDown_bd x b
      have hw1 : IntKind.i64.wrap (x + 1) = x + 1 := IntWalk.i64_in _ (by omega)
      have hw2 : IntKind.i64.wrap (g + b) = g + b := IntWalk.i64_in _ (by omega)
      clear hg hq p2
      go_wp2_with fail
      refine (iDown_is (x + 1) b q HQ.out a9 W HE.out).mono ?_
      rintro e w' ⟨rfl, rfl⟩
      by_cases hc : x = 10000
      · have hc1 := hq9 hc
        subst hc hc1
        clear p1 hq9
        go_wp2_with fail
        refine (iDown_is g b g HP2.out a9 W HE.out).mono ?_
        rintro e w' ⟨rfl, rfl⟩
        go_wp2
        go_ret
        exact ⟨by first | rfl | exact retb (by simp) | exact retb (by simp; omega), HBW.out⟩
      · have hc2 : (x == 10000) = false := by rw [beq_eq_false_iff_ne]; exact hc
        clear hq9
        have p3 : g ≤ q ∧ q ≤ g + b := by omega
        obtain ⟨p3, p4⟩ := p3
        clear p1
        go_wp2_with fail
        refine (iDown_is g b g HP2.out a9 W HE.out).mono ?_
        rintro e w' ⟨rfl, rfl⟩
        go_wp2
        go_ret
        exact ⟨by first | rfl | exact retb (by simp) | exact retb (by simp; omega), HBW.out⟩
set_option maxHeartbeats 4000000 in
theorem w_Draw (A : Option Addr) (n c : Nat) (hnc : n ≤ c) (hn : n ≤ maxLen) (w : World) (hb : Bytes w w.heap.size A n) (a9 : Addr) (hE : ErrW a9 w) :
    Calls Tryd.prog 7 #[.slice A n c] w fun e w' => e = .returned (.bool true) ∧ Below w.heap.size w w' := by
  have hn2 := hn
  unfold maxLen at hn2
  by_cases hbig : 1048576 < n
  · go_enter Tryd.func7, Tryd.ntmps7
    go_wp2
    go_ret
    exact ⟨rfl, Below.refl _ _⟩
  · go_enter Tryd.func7, Tryd.ntmps7
    go_wp2_with fail
    refine (dDraw_any A n c hnc hn w hb).mono ?_
    rintro e W ⟨x, b, l, rfl, ⟨hx0, hx1⟩, ⟨hb0, hb1⟩, ⟨hl0, hl1⟩, hbW⟩
    have HE := Lib.hid (hE.below hbW)
    have HBW := Lib.hid hbW
    obtain ⟨g, hg⟩ : ∃ g, rDrw x b l = g := ⟨_, rfl⟩
    have HG := Lib.hid hg
    clear hE hb hbW
    go_wp2_with fail
    refine (iDrw_is x b l g HG.out a9 W HE.out).mono ?_
    rintro e w' ⟨rfl, rfl⟩
    go_wp2_with fail
    refine (sDrw_is x b l g HG.out W).mono ?_
    rintro e w' ⟨rfl, rfl⟩
    by_cases hneg : g < 0
    · clear hg
      go_wp2
      go_ret
      exact ⟨rfl, HBW.out⟩
    · obtain ⟨⟨h0, h1, h2, h3⟩, h4, h5⟩ := rDrwOk_iff.1 (rDrw_neg.1 (by rw [hg]; exact hneg))
      have hbz : (b == 0) = false := by rw [beq_eq_false_iff_ne]; omega
      have hbn : ¬ b = 0 := by omega
      have p := p177 h0 h1 h2 h3 h4 h5
      rw [hg] at p
      obtain ⟨q, hq⟩ : ∃ q, rDrw x b (l + 1) = q := ⟨_, rfl⟩
      rw [hq] at p
      have HQ := Lib.hid hq
      have hg9 : -1 ≤ g ∧ g ≤ 10020 := by rw [← hg]; exact rDrw_bd x b l
      obtain ⟨p1, p2, p3, p5⟩ := p
      have p4 : g.tmod b = 0 := tmod_of (by omega) p1
      obtain ⟨z, hz⟩ : ∃ z, max (g - x) (x - g) = z := ⟨_, rfl⟩
      rw [hz] at p2
      have hmx : (if g - x < x - g then x - g else g - x) = z := by rw [← hz]; split <;> omega
      have hmx2 : (if x - g < g - x then g - x else x - g) = z := by rw [← hz]; split <;> omega
      have hw1 : IntKind.i64.wrap (g - x) = g - x := IntWalk.i64_in _ (by omega)
      have hw2 : IntKind.i64.wrap (x - g) = x - g := IntWalk.i64_in _ (by omega)
      have hw3 : IntKind.i64.wrap (l + 1) = l + 1 := IntWalk.i64_in _ (by omega)
      obtain ⟨r, hr⟩ : ∃ r, x % b = r := ⟨_, rfl⟩
      rw [hr] at p5
      have hrt := tmod_of h0 hr
      clear hg hz hq
      go_wp2_with fail
      refine (iDrw_is x b (l + 1) q HQ.out a9 W HE.out).mono ?_
      rintro e w' ⟨rfl, rfl⟩
      by_cases hc : r = 0
      · have hc3 : (g == x) = true := by rw [beq_iff_eq]; omega
        subst hc
        clear p5
        go_wp2
        go_ret
        exact ⟨by first | rfl | exact retb (by simp) | exact retb (by simp; omega), HBW.out⟩
      · have hc2 : (r == 0) = false := by rw [beq_eq_false_iff_ne]; exact hc
        clear p5
        go_wp2
        go_ret
        exact ⟨by first | rfl | exact retb (by simp) | exact retb (by simp; omega), HBW.out⟩
set_option maxHeartbeats 4000000 in
theorem w_RangeWidth (A : Option Addr) (n c : Nat) (hnc : n ≤ c) (hn : n ≤ maxLen) (w : World) (hb : Bytes w w.heap.size A n) (a9 : Addr) (hE : ErrW a9 w) :
    Calls Tryd.prog 11 #[.slice A n c] w fun e w' => e = .returned (.bool true) ∧ Below w.heap.size w w' := by
  have hn2 := hn
  unfold maxLen at hn2
  by_cases hbig : 1048576 < n
  · go_enter Tryd.func11, Tryd.ntmps11
    go_wp2
    go_ret
    exact ⟨rfl, Below.refl _ _⟩
  · go_enter Tryd.func11, Tryd.ntmps11
    go_wp2_with fail
    refine (dLow_any A n c hnc hn w hb).mono ?_
    rintro e W ⟨x, b, rfl, ⟨hx0, hx1⟩, ⟨hb0, hb1⟩, hbW⟩
    have HE := Lib.hid (hE.below hbW)
    have HBW := Lib.hid hbW
    obtain ⟨g, hg⟩ : ∃ g, rLow x b = g := ⟨_, rfl⟩
    have HG := Lib.hid hg
    clear hE hb hbW
    go_wp2_with fail
    refine (iLow_is x b g HG.out a9 W HE.out).mono ?_
    rintro e w' ⟨rfl, rfl⟩
    go_wp2_with fail
    refine (sLow_is x b g HG.out W).mono ?_
    rintro e w' ⟨rfl, rfl⟩
    by_cases hneg : g < 0
    · clear hg
      go_wp2
      go_ret
      exact ⟨rfl, HBW.out⟩
    · obtain ⟨⟨h0, h1, h2, h3⟩, hm⟩ := rMul_iff.1 (rLow_neg.1 (by rw [hg]; exact hneg))
      have hbz : (b == 0) = false := by rw [beq_eq_false_iff_ne]; omega
      have hbn : ¬ b = 0 := by omega
      have p := p181 h0 h1 h2 h3 hm
      rw [hg] at p
      obtain ⟨q, hq⟩ : ∃ q, rHigh x b = q := ⟨_, rfl⟩
      rw [hq] at p
      have HQ := Lib.hid hq
      have hg9 : -1 ≤ g ∧ g ≤ 10000 := by rw [← hg]; exact rLow_bd x b
      have hq9 : -1 ≤ q ∧ q ≤ 10000 := by rw [← hq]; exact rHigh_bd x b
      obtain ⟨p1, p2⟩ := p
      have hw1 : IntKind.i64.wrap (q - g) = q - g := IntWalk.i64_in _ (by omega)
      have hw2 : IntKind.i64.wrap (2 * b) = 2 * b := IntWalk.i64_in _ (by omega)
      have hw3 : IntKind.i64.wrap (2 * b - 2) = 2 * b - 2 := IntWalk.i64_in _ (by omega)
      have hw4 : IntKind.i64.wrap (10000 - b) = 10000 - b := IntWalk.i64_in _ (by omega)
      clear hg hq hm
      go_wp2_with fail
      refine (iHigh_is x b q HQ.out a9 W HE.out).mono ?_
      rintro e w' ⟨rfl, rfl⟩
      by_cases hc : x < b
      · clear p2
        go_wp2
        go_ret
        exact ⟨by first | rfl | exact retb (by simp) | exact retb (by simp; omega), HBW.out⟩
      · by_cases hc2 : 10000 - b < x
        · clear p2
          go_wp2
          go_ret
          exact ⟨by first | rfl | exact retb (by simp) | exact retb (by simp; omega), HBW.out⟩
        · have hc3 : q - g = 2 * b - 2 := by omega
          have hc4 : (q - g == 2 * b - 2) = true := by rw [beq_iff_eq]; exact hc3
          clear p2 hc3
          go_wp2
          go_ret
          exact ⟨by first | rfl | exact retb (by simp) | exact retb (by simp; omega), HBW.out⟩
set_option maxHeartbeats 4000000 in
theorem w_NearRises (A : Option Addr) (n c : Nat) (hnc : n ≤ c) (hn : n ≤ maxLen) (w : World) (hb : Bytes w w.heap.size A n) (a9 : Addr) (hE : ErrW a9 w) :
    Calls Tryd.prog 12 #[.slice A n c] w fun e w' => e = .returned (.bool true) ∧ Below w.heap.size w w' := by
  have hn2 := hn
  unfold maxLen at hn2
  by_cases hbig : 1048576 < n
  · go_enter Tryd.func12, Tryd.ntmps12
    go_wp2
    go_ret
    exact ⟨rfl, Below.refl _ _⟩
  · go_enter Tryd.func12, Tryd.ntmps12
    go_wp2_with fail
    refine (dNear_any A n c hnc hn w hb).mono ?_
    rintro e W ⟨x, b, rfl, ⟨hx0, hx1⟩, ⟨hb0, hb1⟩, hbW⟩
    have HE := Lib.hid (hE.below hbW)
    have HBW := Lib.hid hbW
    obtain ⟨g, hg⟩ : ∃ g, rNear x b = g := ⟨_, rfl⟩
    have HG := Lib.hid hg
    clear hE hb hbW
    go_wp2_with fail
    refine (iNear_is x b g HG.out a9 W HE.out).mono ?_
    rintro e w' ⟨rfl, rfl⟩
    go_wp2_with fail
    refine (sNear_is x b g HG.out W).mono ?_
    rintro e w' ⟨rfl, rfl⟩
    by_cases hneg : g < 0
    · clear hg
      go_wp2
      go_ret
      exact ⟨rfl, HBW.out⟩
    · obtain ⟨h0, h1, h2, h3⟩ := rOk_iff.1 (rNear_neg.1 (by rw [hg]; exact hneg))
      have hbz : (b == 0) = false := by rw [beq_eq_false_iff_ne]; omega
      have hbn : ¬ b = 0 := by omega
      have p := p182 h0 h1 h2 h3
      rw [hg] at p
      obtain ⟨q, hq⟩ : ∃ q, rNear (x + 1) b = q := ⟨_, rfl⟩
      rw [hq] at p
      have HQ := Lib.hid hq
      have hq9 : x = 10000 → q = -1 := fun h => by rw [← hq, rNear_eq, if_neg (by omega)]
      obtain ⟨h, hh⟩ : ∃ h, b / 2 = h := ⟨_, rfl⟩
      have hh2 : b.tdiv 2 = h := by rw [Int.tdiv_eq_ediv_of_nonneg (by omega)]; exact hh
      obtain ⟨o, ho⟩ : ∃ o, b % 2 = o := ⟨_, rfl⟩
      have ho2 : b.tmod 2 = o := tmod_of (by omega) ho
      rw [hh, ho] at p
      have h9 : 1 ≤ h ∧ h ≤ 10 := by omega
      obtain ⟨y, hy⟩ : ∃ y, rDown (x + h) b = y := ⟨_, rfl⟩
      rw [hy] at p
      have HY := Lib.hid hy
      obtain ⟨p1, p2⟩ := p
      have hw1 : IntKind.i64.wrap (x + 1) = x + 1 := IntWalk.i64_in _ (by omega)
      have hw2 : IntKind.i64.wrap (x + h) = x + h := IntWalk.i64_in _ (by omega)
      have hw3 : IntKind.i64.wrap (h) = h := IntWalk.i64_in _ (by omega)
      clear hg hq hy
      go_wp2_with fail
      refine (iNear_is (x + 1) b q HQ.out a9 W HE.out).mono ?_
      rintro e w' ⟨rfl, rfl⟩
      by_cases hc : x = 10000
      · have hc1 := hq9 hc
        subst hc hc1
        clear p1 hq9 p2
        have p3 : 10000 < 10000 + h := by omega
        go_wp2
        go_ret
        exact ⟨by first | rfl | exact retb (by simp) | exact retb (by simp; omega), HBW.out⟩
      · have hc2 : (x == 10000) = false := by rw [beq_eq_false_iff_ne]; exact hc
        have p3 : g ≤ q := by omega
        clear hq9 p1
        by_cases hx : 10000 < x + h
        · clear p2
          go_wp2
          go_ret
          exact ⟨by first | rfl | exact retb (by simp) | exact retb (by simp; omega), HBW.out⟩
        · go_wp2_with fail
          refine (iDown_is (x + h) b y HY.out a9 W HE.out).mono ?_
          rintro e w' ⟨rfl, rfl⟩
          by_cases hyg : y = g
          · subst hyg
            clear p2
            go_wp2
            go_ret
            exact ⟨by first | rfl | exact retb (by simp) | exact retb (by simp; omega), HBW.out⟩
          · have hyg2 : (y == g) = false := by rw [beq_eq_false_iff_ne]; exact hyg
            have ho3 : (o == 1) = true := by rw [beq_iff_eq]; omega
            clear p2
            go_wp2
            go_ret
            exact ⟨by first | rfl | exact retb (by simp) | exact retb (by simp; omega), HBW.out⟩
end Go.Proofs.YtlingfbmphaphaaDoor
