import Derived.Test.YtcfcimfhpbjjnaaS5
namespace Go.Proofs.Ytcfcimfhpbjjnaa
open Go.RowKit
set_option maxHeartbeats 4000000 in
theorem w_PeopleWithoutTwo (A : Option Addr) (n c : Nat) (hnc : n ≤ c) (hn : n ≤ maxLen) (w : World) (hb : Bytes w w.heap.size A n) :
    Calls Try.prog 7 #[.slice A n c] w fun e w' => e = .returned (.bool true) ∧ Below w.heap.size w w' := by
  have hn2 := hn
  unfold maxLen at hn2
  by_cases hbig : 1048576 < n
  · go_enter Try.func7, Try.ntmps7
    go_wp2
    go_ret
    exact ⟨rfl, Below.refl _ _⟩
  · go_enter Try.func7, Try.ntmps7
    go_wp2_with fail
    refine (drawWithout_any A n c hnc hn _ hb).mono ?_
    rintro e W ⟨l, B, d, i, rfl, hrow, hl, hld, hd, hbd, i0, i1, hbW⟩
    have hlm : l.length ≤ maxLen := by simp only [maxLen]; omega
    have HBD := Lib.hid hbd; clear hbd
    have HBW := Lib.hid hbW; clear hbW
    rcases yes_or_no l i with ⟨hok, k, rfl, hkl⟩ | hno
    rotate_left
    · go_wp2_with fail
      refine (no_at l _ rfl B d i _ hrow hlm hno [] rfl).mono ?_
      rintro e w1 ⟨A1, c1, rfl, hr1, hlc1, hc1, hb1⟩
      go_wp2_with fail
      refine (sNo_at l _ rfl B d i _ (hrow.moved hb1) hlm hno [] rfl).mono ?_
      rintro e w2 ⟨A2, c2, rfl, hr2, hlc2, hc2, hb2⟩
      go_wp2_with fail
      refine (same_at [] _ _ rfl rfl A1 A2 c1 c2 (by simp) _ (hr1.moved hb2) hr2).mono ?_
      rintro e w3 ⟨rfl, hb3⟩
      go_wp2_with fail
      refine (same_at [] _ _ rfl rfl A1 A2 c1 c2 (by simp) _ ((hr1.moved hb2).moved hb3) (hr2.moved hb3)).mono ?_
      rintro e w4 ⟨rfl, hb4⟩
      go_wp2
      go_ret
      exact ⟨rfl, bth HBW.out (bth hb1 (bth hb2 (bth hb3 hb4)))⟩
    · have hm7 : (less1 l k).length < l.length := by have := less1_len hkl; omega
      have hm8 : (less1 l k).length ≤ 1000000 := by omega
      have hm9 : (less1 l k).length ≤ maxLen := by omega
      have hok' := less1_ok hkl hok
      have HLEN := Lib.hid (less1_len hkl)
      go_wp2_with fail
      refine (yes_at l _ rfl B d k _ rfl hkl _ hrow hok _ rfl).mono ?_
      rintro e w1 ⟨A1, c1, rfl, hr1, hlc1, hc1, hb1⟩
      go_wp2_with fail
      refine (sYes_at l _ rfl B d k _ rfl hkl hld _ (hrow.moved hb1) hok _ rfl).mono ?_
      rintro e w2 ⟨A2, c2, rfl, hr2, hlc2, hc2, hb2⟩
      go_wp2_with fail
      refine (same_at (less1 l k) _ _ rfl rfl A1 A2 c1 c2 hm8 _ (hr1.moved hb2) hr2).mono ?_
      rintro e w3 ⟨rfl, hb3⟩
      have hrow3 := ((hrow.moved hb1).moved hb2).moved hb3
      have hr3 := (hr1.moved hb2).moved hb3
      have HB3 := Lib.hid (bth HBW.out (bth hb1 (bth hb2 hb3)))
      clear hrow hr1 hr2 hb1 hb2 hb3 HBW hb
      by_cases h2 : l.length < 2
      · have h2' : (l.length : Int) < 2 := by omega
        go_wp2_with fail
        refine (no_at _ _ rfl A1 c1 0 _ hr3 hm9 (.inr (.inr (by omega))) [] rfl).mono ?_
        rintro e w4 ⟨A4, c4, rfl, hr4, hlc4, hc4, hb4⟩
        go_wp2
        go_ret
        exact ⟨rfl, bth HB3.out hb4⟩
      have h2' : ¬ (l.length : Int) < 2 := by omega
      cases k with
      | zero =>
        go_wp2_with fail
        refine (yes_at _ _ rfl A1 c1 0 _ rfl (by have := HLEN.out; omega) _ hr3 hok' _ rfl).mono ?_
        rintro e w4 ⟨A4, c4, rfl, hr4, hlc4, hc4, hb4⟩
        go_wp2_with fail
        refine (yes_at l _ rfl B d 1 _ rfl (by omega) _ (hrow3.moved hb4) hok _ rfl).mono ?_
        rintro e w5 ⟨A5, c5, rfl, hr5, hlc5, hc5, hb5⟩
        go_wp2_with fail
        refine (yes_at (less1 l 1) _ rfl A5 c5 0 _ (by first | rfl | (rw [IntWalk.i64_in _ (by omega)]; omega)) (by have := less1_len (l := l) (k := 1) (by omega); omega) _ hr5 (less1_ok (by omega) hok) _ rfl).mono ?_
        rintro e w6 ⟨A6, c6, rfl, hr6, hlc6, hc6, hb6⟩
        have he := Lib.hid (less1_two0 (l := l))
        have hm4 : (less1 (less1 l 0) 0).length ≤ 1000000 := by have := less1_len (l := less1 l 0) (k := 0) (by have := HLEN.out; omega); omega
        go_wp2_with fail
        refine (same_at _ _ _ rfl (congrArg List.length he.out.symm) A4 A6 c4 c6 hm4 _ ((hr4.moved hb5).moved hb6) (he.out ▸ hr6)).mono ?_
        rintro e w7 ⟨rfl, hb7⟩
        go_wp2
        go_ret
        exact ⟨rfl, bth HB3.out (bth hb4 (bth hb5 (bth hb6 hb7)))⟩
      | succ q =>
        have hq0 : (((q + 1 : Nat) : Int) == 0) = false := by rw [beq_eq_false_iff_ne]; omega
        go_wp2_with fail
        refine (yes_at _ _ rfl A1 c1 0 _ rfl (by have := HLEN.out; omega) _ hr3 hok' _ rfl).mono ?_
        rintro e w4 ⟨A4, c4, rfl, hr4, hlc4, hc4, hb4⟩
        go_wp2_with fail
        refine (yes_at l _ rfl B d 0 _ rfl (by omega) _ (hrow3.moved hb4) hok _ rfl).mono ?_
        rintro e w5 ⟨A5, c5, rfl, hr5, hlc5, hc5, hb5⟩
        go_wp2_with fail
        refine (yes_at (less1 l 0) _ rfl A5 c5 q _ (by first | rfl | (rw [IntWalk.i64_in _ (by omega)]; omega)) (by have := less1_len (l := l) (k := 0) (by omega); omega) _ hr5 (less1_ok (by omega) hok) _ rfl).mono ?_
        rintro e w6 ⟨A6, c6, rfl, hr6, hlc6, hc6, hb6⟩
        have he := Lib.hid (less1_two (l := l) q)
        have hm4 : (less1 (less1 l (q + 1)) 0).length ≤ 1000000 := by have := less1_len (l := less1 l (q + 1)) (k := 0) (by have := HLEN.out; omega); omega
        go_wp2_with fail
        refine (same_at _ _ _ rfl (congrArg List.length he.out.symm) A4 A6 c4 c6 hm4 _ ((hr4.moved hb5).moved hb6) (he.out ▸ hr6)).mono ?_
        rintro e w7 ⟨rfl, hb7⟩
        go_wp2
        go_ret
        exact ⟨rfl, bth HB3.out (bth hb4 (bth hb5 (bth hb6 hb7)))⟩
end Go.Proofs.Ytcfcimfhpbjjnaa
