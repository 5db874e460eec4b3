import Derived.Test.YtedmohmedldcgaaL10
import Derived.Test.YtedmohmedldcgaaM3
namespace Go.Proofs.Ytedmohmedldcgaa
open Go.RowKit
def LoopX (W : World) (m : List (List Int)) (v : Value) (wr : World) : Prop :=
  ∃ A c K, v = .slice A K c ∧ K = m.length ∧ LL wr wr.heap.size A m ∧ K ≤ c ∧ c ≤ maxLen ∧ Below W.heap.size W wr
set_option maxHeartbeats 4000000 in
theorem w_LadderMergeAll (A : Option Addr) (n c : Nat) (hnc : n ≤ c) (hn : n ≤ maxLen) (w : World) (hb : Bytes w w.heap.size A n) :
    Calls Try.prog 11 #[.slice A n c] w fun e w' => e = .returned (.bool true) ∧ Below w.heap.size w w' := by
  have hn2 := hn
  unfold maxLen at hn2
  have hall : 1048576 < n ∨ ¬ 1048576 < n := by omega
  rcases hall with hbig | hbig
  · go_enter Try.func11, Try.ntmps11
    go_wp2
    go_ret
    exact ⟨rfl, Below.refl _ _⟩
  · go_enter Try.func11, Try.ntmps11
    go_wp2_with fail
    refine (drawM_any A n c hnc hn _ hb).mono ?_
    rintro e W ⟨ll, B, d, a, b, rfl, hll, hlen, hld, hd, a0, a1, b0, b1', hbW⟩
    have HBW := Lib.hid hbW; clear hbW hb
    have hlm : ll.length ≤ maxLen := by simp only [maxLen]; omega
    obtain ⟨N, hN⟩ : ∃ N, N = ll.length := ⟨_, rfl⟩
    rw [← hN] at hlen hld
    rw [← hN]
    have HN := Lib.hid hN; clear hN
    cases hok : mergeOk ll a b
    · have HL := Lib.hid (show lmerge ll a b = [] by simp [lmerge, hok])
      have HOK := Lib.hid hok; clear hok
      have hem : ([] : List (List Int)).length ≤ maxLen := by simp [maxLen]
      go_wp2_with fail
      refine (iMerge_at W ll N HN.out B d hll hlm a b 0 [] false rfl HL.out HOK.out _ (Below.refl _ _)).mono ?_
      rintro e w1 ⟨A1, c1, rfl, hl1, g1, g2, b1⟩
      go_wp2_with fail
      refine (sMerge_at w1 ll N HN.out B d (hll.moved b1) hlm a b 0 [] false rfl HL.out HOK.out _ (Below.refl _ _)).mono ?_
      rintro e w2 ⟨A2', c2', rfl, hl2, g3, g4, b2⟩
      go_wp2_with fail
      refine (same_at w2 [] A1 A2' 0 0 c1 c2' rfl rfl hem (hl1.moved b2) hl2 _ (Below.refl _ _)).mono ?_
      rintro e w3 ⟨rfl, b3⟩
      go_wp2_with fail
      refine (same_at w2 [] A1 A2' 0 0 c1 c2' rfl rfl hem (hl1.moved b2) hl2 _ b3).mono ?_
      rintro e w4 ⟨rfl, b4⟩
      go_wp2
      go_ret
      exact ⟨by first | rfl | exact retb (by simp; omega) | exact retb (by simp), bth HBW.out (bth b1 (bth b2 b4))⟩
    obtain ⟨f1, f2, f3, f4, f5, f6, f7, f8, f9, f10, f11, f12, f13, f14, f15, f16, f17⟩ := m_merge hok
    have hN3 : N ≤ 3 := by rw [HN.out]; exact lad_len3 (mergeOk_in hok).1
    have hN2 : N ≤ 2 := by have := (mergeOk_in hok).2.2.2.2.2; rw [← HN.out] at this; omega
    obtain ⟨m, hm⟩ : ∃ m, lmerge ll a b = m := ⟨_, rfl⟩
    rw [hm] at f1 f2 f3 f4 f5 f6 f7 f9 f11 f12 f14 f15 f16 f17
    rw [← HN.out] at f1 f2 f3 f5 f6 f7 f12 f13 f14 f16 f17
    have HML := Lib.hid hm
    have HOK := Lib.hid hok
    have HMN := Lib.hid f5.symm
    have hmm : m.length ≤ maxLen := by rw [f5]; simp only [maxLen]; omega
    have F1 := Lib.hid f1
    have F2 := Lib.hid f2
    have F3 := Lib.hid f3
    have F4 := Lib.hid f4
    have F6 := Lib.hid f6
    have F7 := Lib.hid f7
    have F8 := Lib.hid f8
    have F9 := Lib.hid f9
    have F10 := Lib.hid f10
    have F11 := Lib.hid f11
    have F12 := Lib.hid f12
    have F14 := Lib.hid f14
    have F15 := Lib.hid f15
    clear hm hok f1 f2 f3 f4 f5 f6 f7 f8 f9 f10 f11 f12 f14 f15
    go_wp2_with fail
    refine (iMerge_at W ll N HN.out B d hll hlm a b (N + 1) m true HMN.out HML.out HOK.out _ (Below.refl _ _)).mono ?_
    rintro e w1 ⟨A1, c1, rfl, hl1, g1, g2, b1⟩
    go_wp2_with fail
    refine (sMerge_at w1 ll N HN.out B d (hll.moved b1) hlm a b (N + 1) m true HMN.out HML.out HOK.out _ (Below.refl _ _)).mono ?_
    rintro e w2 ⟨A2', c2', rfl, hl2, g3, g4, b2⟩
    go_wp2_with fail
    refine (same_at w2 m A1 A2' (N + 1) (N + 1) c1 c2' HMN.out HMN.out hmm (hl1.moved b2) hl2 _ (Below.refl _ _)).mono ?_
    rintro e w3 ⟨rfl, b3⟩
    have HB2 := Lib.hid (bth HBW.out (bth b1 b2))
    have hO := hl1.moved b2
    have hL := (hll.moved b1).moved b2
    have HO := Lib.hid hO; have HL := Lib.hid hL
    clear hO hL hl1 hl2 b1 b2 hll HBW
    by_cases hN0 : 0 < N
    · have hN0' : (0 : Int) < (N : Int) := by omega
      go_wp2_with fail
      refine (iValid_at w2 m _ HMN.out A1 c1 HO.out hmm true F4.out _ b3).mono ?_
      rintro e w4 ⟨rfl, b4⟩
      go_wp2
      go_ret
      exact ⟨by first | rfl | exact retb (by simp; omega) | exact retb (by simp), bth HB2.out b4⟩
    · have hN : ¬ (0 : Int) < (N : Int) := by omega
      have hN1 : N = 0 := by omega
      have hl0 : ll = [] := List.eq_nil_of_length_eq_zero (by rw [← HN.out]; exact hN1)
      have hx0 : lmerge [] a b = m := by rw [← hl0]; exact HML.out
      have hok0 : mergeOk [] a b = true := by rw [← hl0]; exact HOK.out
      obtain ⟨q1, q2, q3⟩ := m_all hok0
      rw [hx0] at q1 q2 q3
      have hm3 : m.length ≤ 3 := by rw [← HMN.out]; omega
      have HOL := Lib.hid (outer_len m hm3)
      have Q1 := Lib.hid q1
      have Q2 := Lib.hid q2
      have Q3 := Lib.hid q3
      have HM3 := Lib.hid hm3
      have hx3 : LoopX w2 m (.slice A1 (N + 1) c1) w3 := ⟨A1, c1, N + 1, rfl, HMN.out, HO.out.moved b3, g1, g2, b3⟩
      have HX3 := Lib.hid hx3
      clear hx3 hN0 hl0 hx0 hok0 q1 q2 q3 hm3 f13 f16 f17 hN
      subst hN1
      go_wp2
      go_loopw [10, 11] (fun v i wr => ∃ k : Nat, k ≤ 2 ∧ i = .int .i64 k ∧ LoopX w2 (outer m k) v wr) (fun _ i _ => 2 - (intOf i).toNat)
      case atStart => exact ⟨0, by omega, rfl, HX3.out⟩
      case round =>
        obtain ⟨k, hk, rfl, hX⟩ := hrel
        have HX := Lib.hid hX; clear hX
        by_cases hlt : k < 2
        · have hki : (k : Int) < 2 := by omega
          have HOK' := Lib.hid (HOL.out k)
          obtain ⟨x, hx⟩ : ∃ x, outer m k = x := ⟨_, rfl⟩
          rw [hx] at HX HOK'
          have HXK := Lib.hid hx; clear hx
          go_wp2
          go_loopw [10, 12] (fun v i wr => ∃ j : Nat, j ≤ 3 ∧ i = .int .i64 ((j + 1 : Nat) : Int) ∧ LoopX w2 (inner x k j) v wr) (fun _ i _ => 4 - (intOf i).toNat)
          case atStart => exact ⟨0, by omega, rfl, HX.out⟩
          case round =>
            obtain ⟨j, hj, rfl, hX⟩ := hrel
            obtain ⟨A, c, K, rfl, hK, hl, hKc, hc, b4⟩ := hX
            have hz3 : (inner x k j).length ≤ 3 := inner_len x k HOK'.out j
            have hK3 : K ≤ 3 := by omega
            have hIN : inner x k (j + 1) = if mergeOk (inner x k j) 0 (j + 1) = true ∧ (inner x k j).length + 1 = k + 2 then lmerge (inner x k j) 0 (j + 1) else inner x k j := rfl
            have HIN := Lib.hid hIN; clear hIN
            obtain ⟨z, hz⟩ : ∃ z, inner x k j = z := ⟨_, rfl⟩
            rw [hz] at hK hl hz3 HIN
            have hzm : z.length ≤ maxLen := by simp only [maxLen]; omega
            have HZ := Lib.hid hz
            have HK := Lib.hid hK
            have HL4 := Lib.hid hl
            clear hz hK hl
            by_cases hjt : j < 3
            · have hji : ((j + 1 : Nat) : Int) < 4 := by omega
              have hji2 : (j : Int) + 1 < 4 := by omega
              cases hok2 : mergeOk z 0 ((j : Int) + 1)
              · have HO2 := Lib.hid hok2
                have HE2 := Lib.hid (show lmerge z 0 ((j : Int) + 1) = [] by simp [lmerge, hok2])
                have HIN2 := Lib.hid (show inner x k (j + 1) = z by rw [HIN.out, if_neg (by rw [hok2]; simp)])
                clear hok2
                go_wp2_with fail
                refine (iMerge_at wr z K HK.out A c HL4.out hzm 0 _ 0 [] false rfl HE2.out HO2.out _ (Below.refl _ _)).mono ?_
                rintro e w5 ⟨A5, c5, rfl, hl5, g5, g6, b5⟩
                go_wp2
                go_roundw
                case rel => exact ⟨j + 1, by omega, by go_num, by rw [HIN2.out]; exact ⟨A, c, K, rfl, HK.out, HL4.out.moved b5, hKc, hc, bth b4 b5⟩⟩
                case measure => simp [intOf]; omega
              · have HO2 := Lib.hid hok2
                obtain ⟨y, hy⟩ : ∃ y, lmerge z 0 ((j : Int) + 1) = y := ⟨_, rfl⟩
                have HE2 := Lib.hid hy
                have HKY := Lib.hid (show K + 1 = y.length by rw [HK.out, ← (merge_len hok2).1, hy])
                have hK2 : K ≤ 2 := by rw [HK.out]; exact (merge_len hok2).2
                clear hok2 hy
                go_wp2_with fail
                refine (iMerge_at wr z K HK.out A c HL4.out hzm 0 _ (K + 1) y true HKY.out HE2.out HO2.out _ (Below.refl _ _)).mono ?_
                rintro e w5 ⟨A5, c5, rfl, hl5, g5, g6, b5⟩
                have HL5 := Lib.hid hl5; clear hl5
                by_cases hKk : K + 1 = k + 2
                · have HIN2 := Lib.hid (show inner x k (j + 1) = y by rw [HIN.out, if_pos ⟨HO2.out, by rw [← HK.out]; exact hKk⟩]; exact HE2.out)
                  have e1 : ((K : Int) + 1 == (k : Int) + 2) = true := by rw [beq_iff_eq]; omega
                  clear hKk
                  go_wp2
                  go_roundw
                  case rel => exact ⟨j + 1, by omega, by go_num, by rw [HIN2.out]; exact ⟨A5, c5, K + 1, rfl, HKY.out, HL5.out, g5, g6, bth b4 b5⟩⟩
                  case measure => simp [intOf]; omega
                · have HIN2 := Lib.hid (show inner x k (j + 1) = z by rw [HIN.out, if_neg (by rw [← HK.out]; exact fun h => hKk h.2)])
                  have e1 : ((K : Int) + 1 == (k : Int) + 2) = false := by rw [beq_eq_false_iff_ne]; omega
                  clear hKk
                  go_wp2
                  go_roundw
                  case rel => exact ⟨j + 1, by omega, by go_num, by rw [HIN2.out]; exact ⟨A, c, K, rfl, HK.out, HL4.out.moved b5, hKc, hc, bth b4 b5⟩⟩
                  case measure => simp [intOf]; omega
            · obtain rfl : j = 3 := by omega
              have HJ := Lib.hid (show outer m (k + 1) = z by rw [outer, HXK.out]; exact HZ.out)
              clear hjt hj HIN HOL HOK' HM3 Q1 Q2 Q3 HX3 HX
              go_wp2
              go_roundw
              case rel => exact ⟨k + 1, by omega, by go_num, by rw [HJ.out]; exact ⟨A, c, K, rfl, HK.out, HL4.out, hKc, hc, b4⟩⟩
              case measure => simp [intOf]; omega
        · obtain ⟨A, c, K, rfl, hK, hl, hKc, hc, b4⟩ := HX.out
          have hk2 : k = 2 := by omega
          rw [hk2] at hK hl
          have hki : ¬ (k : Int) < 2 := by omega
          obtain ⟨x, hx⟩ : ∃ x, outer m 2 = x := ⟨_, rfl⟩
          rw [hx] at hK hl Q1 Q2 Q3
          have hK3 : K = 3 := by rw [hK]; exact Q1.out
          have HE2 := Lib.hid (show lmerge x 1 2 = [] by simp [lmerge, Q3.out])
          have HK := Lib.hid hK
          have HL4 := Lib.hid hl
          have hxm : x.length ≤ maxLen := by rw [Q1.out]; simp [maxLen]
          clear hK hl hx hk2 HX
          subst hK3
          go_wp2_with fail
          refine (iMerge_at wr x 3 HK.out A c HL4.out hxm 1 2 0 [] false rfl HE2.out Q3.out _ (Below.refl _ _)).mono ?_
          rintro e w5 ⟨A5, c5, rfl, hl5, g5, g6, b5⟩
          go_wp2_with fail
          refine (iGroups_at wr x 3 HK.out A c HL4.out hxm 3 1 Q2.out _ b5).mono ?_
          rintro e w6 ⟨rfl, b6⟩
          go_wp2
          go_ret
          exact ⟨by first | rfl | exact retb (by simp; omega) | exact retb (by simp), bth HB2.out (bth b4 b6)⟩
end Go.Proofs.Ytedmohmedldcgaa
