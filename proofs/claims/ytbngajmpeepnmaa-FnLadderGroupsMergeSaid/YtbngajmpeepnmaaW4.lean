import Derived.Test.YtbngajmpeepnmaaL10
import Derived.Test.YtbngajmpeepnmaaM2
namespace Go.Proofs.Ytbngajmpeepnmaa
open Go.RowKit
set_option maxHeartbeats 2000000 in
theorem w_LadderGroupsMerge (A : Option Addr) (n c : Nat) (hnc : n ≤ c) (hn : n ≤ maxLen) (w : World) (hb : Bytes w w.heap.size A n) :
    Calls Try.prog 4 #[.slice A n c] w fun e w' => e = .returned (.bool true) ∧ Below w.heap.size w w' := by
  have hn2 := hn
  unfold maxLen at hn2
  have hall : 1048576 < n ∨ ¬ 1048576 < n := by omega
  rcases hall with hbig | hbig
  · go_enter Try.func4, Try.ntmps4
    go_wp2
    go_ret
    exact ⟨rfl, Below.refl _ _⟩
  · go_enter Try.func4, Try.ntmps4
    go_wp2_with fail
    refine (drawM_any A n c hnc hn _ hb).mono ?_
    rintro e W ⟨ll, B, d, a, b, rfl, hll, hlen, hld, hd, a0, a1, b0, b1', hbW⟩
    have HBW := Lib.hid hbW; clear hbW hb
    have hlm : ll.length ≤ maxLen := by simp only [maxLen]; omega
    obtain ⟨N, hN⟩ : ∃ N, N = ll.length := ⟨_, rfl⟩
    rw [← hN] at hlen hld
    rw [← hN]
    have HN := Lib.hid hN; clear hN
    cases hok : mergeOk ll a b
    · have HL := Lib.hid (show lmerge ll a b = [] by simp [lmerge, hok])
      have HOK := Lib.hid hok; clear hok
      have hem : ([] : List (List Int)).length ≤ maxLen := by simp [maxLen]
      go_wp2_with fail
      refine (iMerge_at W ll N HN.out B d hll hlm a b 0 [] false rfl HL.out HOK.out _ (Below.refl _ _)).mono ?_
      rintro e w1 ⟨A1, c1, rfl, hl1, g1, g2, b1⟩
      go_wp2_with fail
      refine (sMerge_at w1 ll N HN.out B d (hll.moved b1) hlm a b 0 [] false rfl HL.out HOK.out _ (Below.refl _ _)).mono ?_
      rintro e w2 ⟨A2', c2', rfl, hl2, g3, g4, b2⟩
      go_wp2_with fail
      refine (same_at w2 [] A1 A2' 0 0 c1 c2' rfl rfl hem (hl1.moved b2) hl2 _ (Below.refl _ _)).mono ?_
      rintro e w3 ⟨rfl, b3⟩
      go_wp2_with fail
      refine (same_at w2 [] A1 A2' 0 0 c1 c2' rfl rfl hem (hl1.moved b2) hl2 _ b3).mono ?_
      rintro e w4 ⟨rfl, b4⟩
      go_wp2
      go_ret
      exact ⟨by first | rfl | exact retb (by simp; omega) | exact retb (by simp), bth HBW.out (bth b1 (bth b2 b4))⟩
    obtain ⟨f1, f2, f3, f4, f5, f6, f7, f8, f9, f10, f11, f12, f13, f14, f15, f16, f17⟩ := m_merge hok
    have hN3 : N ≤ 3 := by rw [HN.out]; exact lad_len3 (mergeOk_in hok).1
    have hN2 : N ≤ 2 := by have := (mergeOk_in hok).2.2.2.2.2; rw [← HN.out] at this; omega
    obtain ⟨m, hm⟩ : ∃ m, lmerge ll a b = m := ⟨_, rfl⟩
    rw [hm] at f1 f2 f3 f4 f5 f6 f7 f9 f11 f12 f14 f15 f16 f17
    rw [← HN.out] at f1 f2 f3 f5 f6 f7 f12 f13 f14 f16 f17
    have HML := Lib.hid hm
    have HOK := Lib.hid hok
    have HMN := Lib.hid f5.symm
    have hmm : m.length ≤ maxLen := by rw [f5]; simp only [maxLen]; omega
    have F1 := Lib.hid f1
    have F2 := Lib.hid f2
    have F3 := Lib.hid f3
    have F4 := Lib.hid f4
    have F6 := Lib.hid f6
    have F7 := Lib.hid f7
    have F8 := Lib.hid f8
    have F9 := Lib.hid f9
    have F10 := Lib.hid f10
    have F11 := Lib.hid f11
    have F12 := Lib.hid f12
    have F14 := Lib.hid f14
    have F15 := Lib.hid f15
    clear hm hok f1 f2 f3 f4 f5 f6 f7 f8 f9 f10 f11 f12 f14 f15
    go_wp2_with fail
    refine (iMerge_at W ll N HN.out B d hll hlm a b (N + 1) m true HMN.out HML.out HOK.out _ (Below.refl _ _)).mono ?_
    rintro e w1 ⟨A1, c1, rfl, hl1, g1, g2, b1⟩
    go_wp2_with fail
    refine (sMerge_at w1 ll N HN.out B d (hll.moved b1) hlm a b (N + 1) m true HMN.out HML.out HOK.out _ (Below.refl _ _)).mono ?_
    rintro e w2 ⟨A2', c2', rfl, hl2, g3, g4, b2⟩
    go_wp2_with fail
    refine (same_at w2 m A1 A2' (N + 1) (N + 1) c1 c2' HMN.out HMN.out hmm (hl1.moved b2) hl2 _ (Below.refl _ _)).mono ?_
    rintro e w3 ⟨rfl, b3⟩
    have HB2 := Lib.hid (bth HBW.out (bth b1 b2))
    have hO := hl1.moved b2
    have hL := (hll.moved b1).moved b2
    have HO := Lib.hid hO; have HL := Lib.hid hL
    clear hO hL hl1 hl2 b1 b2 hll HBW
    obtain ⟨g, hg⟩ : ∃ g, lgroups ll N = g := ⟨_, rfl⟩
    have HG := Lib.hid hg
    have HG1 := Lib.hid (show lgroups m (N + 1) = g - 1 by rw [F14.out, hg])
    have hg4 : g ≤ 4 := by rw [← hg]; unfold lgroups; split; exact (groups_bd ll N 4).2; omega
    rw [hg] at f13
    rw [HG1.out] at f16
    clear hg f17
    go_wp2_with fail
    refine (iGroups_at w2 ll N HN.out B d HL.out hlm _ g HG.out _ b3).mono ?_
    rintro e w4 ⟨rfl, b4⟩
    go_wp2_with fail
    refine (iGroups_at w2 m _ HMN.out A1 c1 HO.out hmm _ (g - 1) HG1.out _ b4).mono ?_
    rintro e w5 ⟨rfl, b5⟩
    go_wp2_with fail
    refine (iGroups_at w2 m _ HMN.out A1 c1 HO.out hmm 0 4 F15.out _ b5).mono ?_
    rintro e w6 ⟨rfl, b6⟩
    go_wp2
    go_ret
    exact ⟨by first | rfl | exact retb (by simp; omega) | exact retb (by simp), bth HB2.out b6⟩
end Go.Proofs.Ytbngajmpeepnmaa
