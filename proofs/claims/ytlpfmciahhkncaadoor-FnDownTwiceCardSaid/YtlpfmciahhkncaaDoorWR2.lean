/- Laws of chapter 21: several calls in one expression. -/
import Derived.Test.YtlpfmciahhkncaaDoorIRN3
import Derived.Test.YtlpfmciahhkncaaDoorDRN
import Derived.Test.YtlpfmciahhkncaaDoorRQ
namespace Go.Proofs.YtlpfmciahhkncaaDoor
open Go.RowKit
set_option maxHeartbeats 4000000 in
theorem w_DownTwice (A : Option Addr) (n c : Nat) (hnc : n ≤ c) (hn : n ≤ maxLen) (w : World) (hb : Bytes w w.heap.size A n) (a9 : Addr) (hE : ErrW a9 w) :
    Calls Tryd.prog 6 #[.slice A n c] w fun e w' => e = .returned (.bool true) ∧ Below w.heap.size w w' := by
  have hn2 := hn
  unfold maxLen at hn2
  by_cases hbig : 1048576 < n
  · go_enter Tryd.func6, Tryd.ntmps6
    go_wp2
    go_ret
    exact ⟨rfl, Below.refl _ _⟩
  · go_enter Tryd.func6, Tryd.ntmps6
    go_wp2_with fail
    refine (dDown_any A n c hnc hn w hb).mono ?_
    rintro e W ⟨x, b, rfl, ⟨hx0, hx1⟩, ⟨hb0, hb1⟩, hbW⟩
    have HE := Lib.hid (hE.below hbW)
    have HBW := Lib.hid hbW
    obtain ⟨g, hg⟩ : ∃ g, rDown x b = g := ⟨_, rfl⟩
    have HG := Lib.hid hg
    clear hE hb hbW
    go_wp2_with fail
    refine (iDown_is x b g HG.out a9 W HE.out).mono ?_
    rintro e w' ⟨rfl, rfl⟩
    go_wp2_with fail
    refine (sDown_is x b g HG.out W).mono ?_
    rintro e w' ⟨rfl, rfl⟩
    by_cases hneg : g < 0
    · clear hg
      go_wp2
      go_ret
      exact ⟨rfl, HBW.out⟩
    · obtain ⟨h0, h1, h2, h3⟩ := rOk_iff.1 (rDown_neg.1 (by rw [hg]; exact hneg))
      have hbz : (b == 0) = false := by rw [beq_eq_false_iff_ne]; omega
      have hbn : ¬ b = 0 := by omega
      have hg9 : g ≤ x := by have := (p172 h0 h1 h2 h3).2.1; rw [hg] at this; exact this
      have hg8 := rDown_bd x b
      rw [hg] at hg8
      have hw1 : IntKind.i64.wrap (2 * b) = 2 * b := IntWalk.i64_in _ (by omega)
      by_cases hc : 20 < 2 * b
      · clear hg
        go_wp2
        go_ret
        exact ⟨by first | rfl | exact retb (by simp) | exact retb (by simp; omega), HBW.out⟩
      · have p := p186 h0 h1 h2 (by omega)
        rw [hg] at p
        obtain ⟨y, hy⟩ : ∃ y, rDown x (2 * b) = y := ⟨_, rfl⟩
        rw [hy] at p
        obtain ⟨p1, p2, p3, p4⟩ := p
        have hy8 := rDown_bd x (2 * b)
        rw [hy] at hy8
        have HY := Lib.hid hy
        have H3 := Lib.hid p3
        have H4 := Lib.hid p4
        have hw2 : IntKind.i64.wrap (g - y) = g - y := IntWalk.i64_in _ (by omega)
        clear hg hy p3 p4
        go_wp2_with fail
        refine (iDown_is x (2 * b) y HY.out a9 W HE.out).mono ?_
        rintro e w' ⟨rfl, rfl⟩
        go_wp2_with fail
        refine (iDown_is g (2 * b) y H3.out a9 W HE.out).mono ?_
        rintro e w' ⟨rfl, rfl⟩
        go_wp2_with fail
        refine (iDown_is y b y H4.out a9 W HE.out).mono ?_
        rintro e w' ⟨rfl, rfl⟩
        go_wp2
        go_ret
        exact ⟨by first | rfl | exact retb (by simp) | exact retb (by simp; omega), HBW.out⟩
end Go.Proofs.YtlpfmciahhkncaaDoor
