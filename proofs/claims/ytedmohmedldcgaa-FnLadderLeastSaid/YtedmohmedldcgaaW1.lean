import Derived.Test.YtedmohmedldcgaaL10
import Derived.Test.YtedmohmedldcgaaM1
namespace Go.Proofs.Ytedmohmedldcgaa
open Go.RowKit
set_option maxHeartbeats 1000000 in
theorem w_LadderCode (A : Option Addr) (n c : Nat) (hnc : n ≤ c) (hn : n ≤ maxLen) (w : World) (hb : Bytes w w.heap.size A n) :
    Calls Try.prog 4 #[.slice A n c] w fun e w' => e = .returned (.bool true) ∧ Below w.heap.size w w' := by
  have hn2 := hn
  unfold maxLen at hn2
  have hall : 1048576 < n ∨ ¬ 1048576 < n := by omega
  rcases hall with hbig | hbig
  · go_enter Try.func4, Try.ntmps4
    go_wp2
    go_ret
    exact ⟨rfl, Below.refl _ _⟩
  · go_enter Try.func4, Try.ntmps4
    go_wp2_with fail
    refine (drawC_any A n c hnc hn _ hb).mono ?_
    rintro e W ⟨ll, B, d, l, x, rfl, hll, hlen, hld, hd, l0, l1, x0, x1, hbW⟩
    have HBW := Lib.hid hbW; clear hbW hb
    have hlm : ll.length ≤ maxLen := by simp only [maxLen]; omega
    cases hok : codeOk ll l x
    · have hz := Lib.hid (show lcode ll l x = 0 by simp [lcode, hok])
      have HOK := Lib.hid hok; clear hok
      go_wp2_with fail
      refine (iCode_at W ll _ rfl B d hll hlm l x 0 false hz.out HOK.out _ (Below.refl _ _)).mono ?_
      rintro e w1 ⟨rfl, b1⟩
      go_wp2_with fail
      refine (sCode_at W ll _ rfl B d hll hlm l x 0 false hz.out HOK.out _ b1).mono ?_
      rintro e w2 ⟨rfl, b2⟩
      go_wp2
      go_ret
      exact ⟨by first | rfl | exact retb (by simp; omega) | exact retb (by simp), HBW.out.trans (b2.mono HBW.out.size)⟩
    · obtain ⟨y0, y1, k1, k2, k3, k4, k5⟩ := m_code hok
      obtain ⟨y, hy⟩ : ∃ y, lcode ll l x = y := ⟨_, rfl⟩
      rw [hy] at y0 y1 k1 k2 k4 k5
      obtain ⟨z, hz⟩ : ∃ z, lcode ll (l + 1) x = z := ⟨_, rfl⟩
      rw [hz] at k5
      have HOK := Lib.hid hok
      have HY := Lib.hid hy
      have HZ := Lib.hid hz
      have K1 := Lib.hid k1
      have K2 := Lib.hid k2
      have K5 := Lib.hid k5.symm
      obtain ⟨t, ht⟩ : ∃ t, decide (l < ll.length) = t := ⟨_, rfl⟩
      rw [ht] at k3 k4
      have K3 := Lib.hid k3
      have K4 := Lib.hid k4
      clear hok hy hz k1 k2 k3 k4 k5
      have HT := Lib.hid ht; clear ht
      go_wp2_with fail
      refine (iCode_at W ll _ rfl B d hll hlm l x y true HY.out HOK.out _ (Below.refl _ _)).mono ?_
      rintro e w1 ⟨rfl, b1⟩
      go_wp2_with fail
      refine (sCode_at W ll _ rfl B d hll hlm l x y true HY.out HOK.out _ b1).mono ?_
      rintro e w2 ⟨rfl, b2⟩
      go_wp2_with fail
      refine (iCode_at W ll _ rfl B d hll hlm l y y true K2.out K1.out _ b2).mono ?_
      rintro e w3 ⟨rfl, b3⟩
      go_wp2_with fail
      refine (iCode_at W ll _ rfl B d hll hlm _ x z t HZ.out K3.out _ b3).mono ?_
      rintro e w4 ⟨rfl, b4⟩
      go_wp2_with fail
      refine (iCode_at W ll _ rfl B d hll hlm _ y z t K5.out K4.out _ b4).mono ?_
      rintro e w5 ⟨rfl, b5⟩
      cases t
      · have hlt : ¬ l < ll.length := by have := HT.out; simpa using this
        go_wp2
        go_ret
        exact ⟨by first | rfl | exact retb (by simp; omega) | exact retb (by simp), HBW.out.trans (b5.mono HBW.out.size)⟩
      · have hlt : l < ll.length := by have := HT.out; simpa using this
        go_wp2
        go_ret
        exact ⟨by first | rfl | exact retb (by simp; omega) | exact retb (by simp), HBW.out.trans (b5.mono HBW.out.size)⟩
set_option maxHeartbeats 1000000 in
theorem w_LadderSame (A : Option Addr) (n c : Nat) (hnc : n ≤ c) (hn : n ≤ maxLen) (w : World) (hb : Bytes w w.heap.size A n) :
    Calls Try.prog 5 #[.slice A n c] w fun e w' => e = .returned (.bool true) ∧ Below w.heap.size w w' := by
  have hn2 := hn
  unfold maxLen at hn2
  have hall : 1048576 < n ∨ ¬ 1048576 < n := by omega
  rcases hall with hbig | hbig
  · go_enter Try.func5, Try.ntmps5
    go_wp2
    go_ret
    exact ⟨rfl, Below.refl _ _⟩
  · go_enter Try.func5, Try.ntmps5
    go_wp2_with fail
    refine (drawC_any A n c hnc hn _ hb).mono ?_
    rintro e W ⟨ll, B, d, l, x, rfl, hll, hlen, hld, hd, l0, l1, x0, x1, hbW⟩
    have HBW := Lib.hid hbW; clear hbW hb
    have hlm : ll.length ≤ maxLen := by simp only [maxLen]; omega
    cases hok : codeOk ll l x
    · have hz := Lib.hid (show lcode ll l x = 0 by simp [lcode, hok])
      have HOK := Lib.hid hok; clear hok
      go_wp2_with fail
      refine (iCode_at W ll _ rfl B d hll hlm l x 0 false hz.out HOK.out _ (Below.refl _ _)).mono ?_
      rintro e w1 ⟨rfl, b1⟩
      go_wp2_with fail
      refine (sCode_at W ll _ rfl B d hll hlm l x 0 false hz.out HOK.out _ b1).mono ?_
      rintro e w2 ⟨rfl, b2⟩
      go_wp2
      go_ret
      exact ⟨by first | rfl | exact retb (by simp; omega) | exact retb (by simp), HBW.out.trans (b2.mono HBW.out.size)⟩
    · obtain ⟨ht0, hd4⟩ := m_same hok
      obtain ⟨y, hy⟩ : ∃ y, lcode ll l x = y := ⟨_, rfl⟩
      obtain ⟨z, hz⟩ : ∃ z, lcode ll ll.length x = z := ⟨_, rfl⟩
      rw [hy, hz] at hd4
      have HOK := Lib.hid hok
      have HY := Lib.hid hy
      have HZ := Lib.hid hz
      have HT := Lib.hid ht0
      have HD := Lib.hid hd4
      clear hok hy hz ht0 hd4
      go_wp2_with fail
      refine (iCode_at W ll _ rfl B d hll hlm l x y true HY.out HOK.out _ (Below.refl _ _)).mono ?_
      rintro e w1 ⟨rfl, b1⟩
      go_wp2_with fail
      refine (sCode_at W ll _ rfl B d hll hlm l x y true HY.out HOK.out _ b1).mono ?_
      rintro e w2 ⟨rfl, b2⟩
      go_wp2_with fail
      refine (iCode_at W ll _ rfl B d hll hlm _ x z true HZ.out HT.out _ b2).mono ?_
      rintro e w3 ⟨rfl, b3⟩
      go_wp2
      go_loopw [12] (fun i wr => ∃ k : Nat, k ≤ 4 ∧ i = .int .i64 k ∧ Below W.heap.size W wr) (fun i _ => 4 - (intOf i).toNat)
      case atStart => exact ⟨0, by omega, rfl, b3⟩
      case round =>
        obtain ⟨k, hk, rfl, b4⟩ := hrel
        by_cases hlt : k < 4
        · have hki : (k : Int) < 4 := by omega
          obtain ⟨p1, p2, p3⟩ := HD.out k hlt
          obtain ⟨u, hu⟩ : ∃ u, lcode ll l k = u := ⟨_, rfl⟩
          obtain ⟨v, hv⟩ : ∃ v, lcode ll ll.length k = v := ⟨_, rfl⟩
          rw [hu, hv] at p3
          have HU := Lib.hid hu
          have HV := Lib.hid hv
          have P1 := Lib.hid p1
          have P2 := Lib.hid p2
          have hcase : (u == y) = false ∨ ((u == y) = true ∧ (v == z) = true ∧ (v != z) = false) := by
            by_cases e : u = y
            · exact .inr ⟨by rw [beq_iff_eq]; exact e, by rw [beq_iff_eq]; exact p3 e, by rw [p3 e]; simp⟩
            · exact .inl (by rw [beq_eq_false_iff_ne]; exact e)
          clear hu hv p1 p2 p3
          go_wp2_with fail
          refine (iCode_at W ll _ rfl B d hll hlm l k u true HU.out P1.out _ b4).mono ?_
          rintro e w5 ⟨rfl, b5⟩
          go_wp2_with fail
          refine (iCode_at W ll _ rfl B d hll hlm _ k v true HV.out P2.out _ b5).mono ?_
          rintro e w6 ⟨rfl, b6⟩
          rcases hcase with c1 | ⟨c1, c2, c3⟩
          all_goals
            go_wp2
            go_roundw
            case rel => exact ⟨k + 1, by omega, by go_num, b6⟩
            case measure => simp [intOf]; omega
        · go_wp2
          go_ret
          exact ⟨by first | rfl | exact retb (by simp), HBW.out.trans (b4.mono HBW.out.size)⟩
set_option maxHeartbeats 1000000 in
theorem w_LadderLeast (A : Option Addr) (n c : Nat) (hnc : n ≤ c) (hn : n ≤ maxLen) (A2 : Option Addr) (m c2 : Nat) (_hmc : m ≤ c2) (hm : m ≤ maxLen) (w : World) (hb : Bytes w w.heap.size A n) (_hb2 : Bytes w w.heap.size A2 m) :
    Calls Try.prog 10 #[.slice A n c, .slice A2 m c2] w fun e w' => e = .returned (.bool true) ∧ Below w.heap.size w w' := by
  have hn2 := hn
  have hm2 := hm
  unfold maxLen at hn2 hm2
  have hall : 1048576 < n ∨ (¬ 1048576 < n ∧ 1048576 < m) ∨ ¬ 1048576 < n ∧ ¬ 1048576 < m := by omega
  rcases hall with hbig | ⟨hbig, hbig2⟩ | ⟨hbig, hbig2⟩
  · go_enter Try.func10, Try.ntmps10
    go_wp2
    go_ret
    exact ⟨rfl, Below.refl _ _⟩
  · go_enter Try.func10, Try.ntmps10
    go_wp2
    go_ret
    exact ⟨rfl, Below.refl _ _⟩
  · go_enter Try.func10, Try.ntmps10
    go_wp2_with fail
    refine (drawC_any A n c hnc hn _ hb).mono ?_
    rintro e W ⟨ll, B, d, l, x, rfl, hll, hlen, hld, hd, l0, l1, x0, x1, hbW⟩
    have HBW := Lib.hid hbW; clear hbW hb
    have hlm : ll.length ≤ maxLen := by simp only [maxLen]; omega
    cases hok : codeOk ll l x
    · have hz := Lib.hid (show lcode ll l x = 0 by simp [lcode, hok])
      have HOK := Lib.hid hok; clear hok
      go_wp2_with fail
      refine (iCode_at W ll _ rfl B d hll hlm l x 0 false hz.out HOK.out _ (Below.refl _ _)).mono ?_
      rintro e w1 ⟨rfl, b1⟩
      go_wp2_with fail
      refine (sCode_at W ll _ rfl B d hll hlm l x 0 false hz.out HOK.out _ b1).mono ?_
      rintro e w2 ⟨rfl, b2⟩
      go_wp2
      go_ret
      exact ⟨by first | rfl | exact retb (by simp; omega) | exact retb (by simp), HBW.out.trans (b2.mono HBW.out.size)⟩
    · obtain ⟨y0, y1, k1, k2, _, _, _⟩ := m_code hok
      obtain ⟨_, l0', l1', _, _⟩ := codeOk_in hok
      obtain ⟨k, hk, hkl⟩ : ∃ k : Nat, (m : Int) % (l + 1) = k ∧ (k : Int) ≤ l := ⟨((m : Int) % (l + 1)).toNat, by have := Int.emod_nonneg (m : Int) (show l + 1 ≠ 0 by omega); omega, by have := Int.emod_nonneg (m : Int) (show l + 1 ≠ 0 by omega); have := Int.emod_lt_of_pos (m : Int) (show 0 < l + 1 by omega); omega⟩
      obtain ⟨q1, q2⟩ := m_least hok k hkl
      obtain ⟨y, hy⟩ : ∃ y, lcode ll l x = y := ⟨_, rfl⟩
      rw [hy] at y0 y1 k1 k2 q1 q2
      obtain ⟨z, hz⟩ : ∃ z, lcode ll k y = z := ⟨_, rfl⟩
      rw [hz] at q2
      have HOK := Lib.hid hok
      have HY := Lib.hid hy
      have HZ := Lib.hid hz
      have K1 := Lib.hid k1
      have K2 := Lib.hid k2
      have Q1 := Lib.hid q1
      have HK := Lib.hid hk
      clear hok hy hz k1 k2 q1 hk
      go_wp2_with fail
      refine (iCode_at W ll _ rfl B d hll hlm l x y true HY.out HOK.out _ (Below.refl _ _)).mono ?_
      rintro e w1 ⟨rfl, b1⟩
      go_wp2_with fail
      refine (sCode_at W ll _ rfl B d hll hlm l x y true HY.out HOK.out _ b1).mono ?_
      rintro e w2 ⟨rfl, b2⟩
      go_wp2_with fail
      rw [HK.out]
      go_wp2_with fail
      refine (iCode_at W ll _ rfl B d hll hlm k y z true HZ.out Q1.out _ b2).mono ?_
      rintro e w3 ⟨rfl, b3⟩
      go_wp2_with fail
      refine (iCode_at W ll _ rfl B d hll hlm l y y true K2.out K1.out _ b3).mono ?_
      rintro e w4 ⟨rfl, b4⟩
      go_wp2
      go_ret
      exact ⟨by first | rfl | exact retb (by simp; omega) | exact retb (by simp), HBW.out.trans (b4.mono HBW.out.size)⟩
end Go.Proofs.Ytedmohmedldcgaa
