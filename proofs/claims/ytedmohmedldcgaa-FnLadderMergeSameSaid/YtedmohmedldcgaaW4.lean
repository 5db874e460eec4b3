import Derived.Test.YtedmohmedldcgaaL10
import Derived.Test.YtedmohmedldcgaaM2
namespace Go.Proofs.Ytedmohmedldcgaa
open Go.RowKit
set_option maxHeartbeats 2000000 in
theorem w_LadderMerge (A : Option Addr) (n c : Nat) (hnc : n ≤ c) (hn : n ≤ maxLen) (w : World) (hb : Bytes w w.heap.size A n) :
    Calls Try.prog 8 #[.slice A n c] w fun e w' => e = .returned (.bool true) ∧ Below w.heap.size w w' := by
  have hn2 := hn
  unfold maxLen at hn2
  have hall : 1048576 < n ∨ ¬ 1048576 < n := by omega
  rcases hall with hbig | hbig
  · go_enter Try.func8, Try.ntmps8
    go_wp2
    go_ret
    exact ⟨rfl, Below.refl _ _⟩
  · go_enter Try.func8, Try.ntmps8
    go_wp2_with fail
    refine (drawM_any A n c hnc hn _ hb).mono ?_
    rintro e W ⟨ll, B, d, a, b, rfl, hll, hlen, hld, hd, a0, a1, b0, b1', hbW⟩
    have HBW := Lib.hid hbW; clear hbW hb
    have hlm : ll.length ≤ maxLen := by simp only [maxLen]; omega
    obtain ⟨N, hN⟩ : ∃ N, N = ll.length := ⟨_, rfl⟩
    rw [← hN] at hlen hld
    rw [← hN]
    have HN := Lib.hid hN; clear hN
    cases hok : mergeOk ll a b
    · have HL := Lib.hid (show lmerge ll a b = [] by simp [lmerge, hok])
      have HOK := Lib.hid hok; clear hok
      have hem : ([] : List (List Int)).length ≤ maxLen := by simp [maxLen]
      go_wp2_with fail
      refine (iMerge_at W ll N HN.out B d hll hlm a b 0 [] false rfl HL.out HOK.out _ (Below.refl _ _)).mono ?_
      rintro e w1 ⟨A1, c1, rfl, hl1, g1, g2, b1⟩
      go_wp2_with fail
      refine (sMerge_at w1 ll N HN.out B d (hll.moved b1) hlm a b 0 [] false rfl HL.out HOK.out _ (Below.refl _ _)).mono ?_
      rintro e w2 ⟨A2', c2', rfl, hl2, g3, g4, b2⟩
      go_wp2_with fail
      refine (same_at w2 [] A1 A2' 0 0 c1 c2' rfl rfl hem (hl1.moved b2) hl2 _ (Below.refl _ _)).mono ?_
      rintro e w3 ⟨rfl, b3⟩
      go_wp2_with fail
      refine (same_at w2 [] A1 A2' 0 0 c1 c2' rfl rfl hem (hl1.moved b2) hl2 _ b3).mono ?_
      rintro e w4 ⟨rfl, b4⟩
      go_wp2
      go_ret
      exact ⟨by first | rfl | exact retb (by simp; omega) | exact retb (by simp), bth HBW.out (bth b1 (bth b2 b4))⟩
    obtain ⟨f1, f2, f3, f4, f5, f6, f7, f8, f9, f10, f11, f12, f13, f14, f15, f16, f17⟩ := m_merge hok
    have hN3 : N ≤ 3 := by rw [HN.out]; exact lad_len3 (mergeOk_in hok).1
    have hN2 : N ≤ 2 := by have := (mergeOk_in hok).2.2.2.2.2; rw [← HN.out] at this; omega
    obtain ⟨m, hm⟩ : ∃ m, lmerge ll a b = m := ⟨_, rfl⟩
    rw [hm] at f1 f2 f3 f4 f5 f6 f7 f9 f11 f12 f14 f15 f16 f17
    rw [← HN.out] at f1 f2 f3 f5 f6 f7 f12 f13 f14 f16 f17
    have HML := Lib.hid hm
    have HOK := Lib.hid hok
    have HMN := Lib.hid f5.symm
    have hmm : m.length ≤ maxLen := by rw [f5]; simp only [maxLen]; omega
    have F1 := Lib.hid f1
    have F2 := Lib.hid f2
    have F3 := Lib.hid f3
    have F4 := Lib.hid f4
    have F6 := Lib.hid f6
    have F7 := Lib.hid f7
    have F8 := Lib.hid f8
    have F9 := Lib.hid f9
    have F10 := Lib.hid f10
    have F11 := Lib.hid f11
    have F12 := Lib.hid f12
    have F14 := Lib.hid f14
    have F15 := Lib.hid f15
    clear hm hok f1 f2 f3 f4 f5 f6 f7 f8 f9 f10 f11 f12 f14 f15
    go_wp2_with fail
    refine (iMerge_at W ll N HN.out B d hll hlm a b (N + 1) m true HMN.out HML.out HOK.out _ (Below.refl _ _)).mono ?_
    rintro e w1 ⟨A1, c1, rfl, hl1, g1, g2, b1⟩
    go_wp2_with fail
    refine (sMerge_at w1 ll N HN.out B d (hll.moved b1) hlm a b (N + 1) m true HMN.out HML.out HOK.out _ (Below.refl _ _)).mono ?_
    rintro e w2 ⟨A2', c2', rfl, hl2, g3, g4, b2⟩
    go_wp2_with fail
    refine (same_at w2 m A1 A2' (N + 1) (N + 1) c1 c2' HMN.out HMN.out hmm (hl1.moved b2) hl2 _ (Below.refl _ _)).mono ?_
    rintro e w3 ⟨rfl, b3⟩
    have HB2 := Lib.hid (bth HBW.out (bth b1 b2))
    have hO := hl1.moved b2
    have hL := (hll.moved b1).moved b2
    have HO := Lib.hid hO; have HL := Lib.hid hL
    clear hO hL hl1 hl2 b1 b2 hll HBW
    obtain ⟨x, hx⟩ : ∃ x, lcode m (N + 1) b = x := ⟨_, rfl⟩
    have HX := Lib.hid hx
    have HY := Lib.hid (show lcode m (N + 1) a = x by rw [F3.out]; exact hx)
    obtain ⟨g, hg⟩ : ∃ g, lgroups m N = g := ⟨_, rfl⟩
    have HG := Lib.hid hg
    have HG1 := Lib.hid (show lgroups m (N + 1) = g - 1 by rw [F7.out, hg])
    rw [hg] at f17
    rw [HG1.out] at f16
    clear hx hg f13
    go_wp2_with fail
    refine (iCode_at w2 m _ HMN.out A1 c1 HO.out hmm _ a x true HY.out F1.out _ b3).mono ?_
    rintro e w4 ⟨rfl, b4⟩
    go_wp2_with fail
    refine (iCode_at w2 m _ HMN.out A1 c1 HO.out hmm _ b x true HX.out F2.out _ b4).mono ?_
    rintro e w5 ⟨rfl, b5⟩
    go_wp2_with fail
    refine (iValid_at w2 m _ HMN.out A1 c1 HO.out hmm true F4.out _ b5).mono ?_
    rintro e w6 ⟨rfl, b6⟩
    have HFR := Lib.hid (show LL w2 w2.heap.size A1 ll by have h := HO.out.front N; rw [F6.out] at h; exact h)
    go_wp2_with fail
    refine (same_at w2 ll A1 B N N c1 d HN.out HN.out hlm HFR.out HL.out _ b6).mono ?_
    rintro e w7 ⟨rfl, b7⟩
    go_wp2_with fail
    refine (iGroups_at w2 m _ HMN.out A1 c1 HO.out hmm _ (g - 1) HG1.out _ b7).mono ?_
    rintro e w8 ⟨rfl, b8⟩
    go_wp2_with fail
    refine (iGroups_at w2 m _ HMN.out A1 c1 HO.out hmm _ g HG.out _ b8).mono ?_
    rintro e w9 ⟨rfl, b9⟩
    go_wp2
    go_ret
    exact ⟨by first | rfl | exact retb (by simp; omega) | exact retb (by simp), bth HB2.out b9⟩
set_option maxHeartbeats 2000000 in
theorem w_LadderMergeSwap (A : Option Addr) (n c : Nat) (hnc : n ≤ c) (hn : n ≤ maxLen) (w : World) (hb : Bytes w w.heap.size A n) :
    Calls Try.prog 9 #[.slice A n c] w fun e w' => e = .returned (.bool true) ∧ Below w.heap.size w w' := by
  have hn2 := hn
  unfold maxLen at hn2
  have hall : 1048576 < n ∨ ¬ 1048576 < n := by omega
  rcases hall with hbig | hbig
  · go_enter Try.func9, Try.ntmps9
    go_wp2
    go_ret
    exact ⟨rfl, Below.refl _ _⟩
  · go_enter Try.func9, Try.ntmps9
    go_wp2_with fail
    refine (drawM_any A n c hnc hn _ hb).mono ?_
    rintro e W ⟨ll, B, d, a, b, rfl, hll, hlen, hld, hd, a0, a1, b0, b1', hbW⟩
    have HBW := Lib.hid hbW; clear hbW hb
    have hlm : ll.length ≤ maxLen := by simp only [maxLen]; omega
    obtain ⟨N, hN⟩ : ∃ N, N = ll.length := ⟨_, rfl⟩
    rw [← hN] at hlen hld
    rw [← hN]
    have HN := Lib.hid hN; clear hN
    cases hok : mergeOk ll a b
    · have HL := Lib.hid (show lmerge ll a b = [] by simp [lmerge, hok])
      have HOK := Lib.hid hok; clear hok
      have hem : ([] : List (List Int)).length ≤ maxLen := by simp [maxLen]
      go_wp2_with fail
      refine (iMerge_at W ll N HN.out B d hll hlm a b 0 [] false rfl HL.out HOK.out _ (Below.refl _ _)).mono ?_
      rintro e w1 ⟨A1, c1, rfl, hl1, g1, g2, b1⟩
      go_wp2_with fail
      refine (sMerge_at w1 ll N HN.out B d (hll.moved b1) hlm a b 0 [] false rfl HL.out HOK.out _ (Below.refl _ _)).mono ?_
      rintro e w2 ⟨A2', c2', rfl, hl2, g3, g4, b2⟩
      go_wp2_with fail
      refine (same_at w2 [] A1 A2' 0 0 c1 c2' rfl rfl hem (hl1.moved b2) hl2 _ (Below.refl _ _)).mono ?_
      rintro e w3 ⟨rfl, b3⟩
      go_wp2_with fail
      refine (same_at w2 [] A1 A2' 0 0 c1 c2' rfl rfl hem (hl1.moved b2) hl2 _ b3).mono ?_
      rintro e w4 ⟨rfl, b4⟩
      go_wp2
      go_ret
      exact ⟨by first | rfl | exact retb (by simp; omega) | exact retb (by simp), bth HBW.out (bth b1 (bth b2 b4))⟩
    obtain ⟨f1, f2, f3, f4, f5, f6, f7, f8, f9, f10, f11, f12, f13, f14, f15, f16, f17⟩ := m_merge hok
    have hN3 : N ≤ 3 := by rw [HN.out]; exact lad_len3 (mergeOk_in hok).1
    have hN2 : N ≤ 2 := by have := (mergeOk_in hok).2.2.2.2.2; rw [← HN.out] at this; omega
    obtain ⟨m, hm⟩ : ∃ m, lmerge ll a b = m := ⟨_, rfl⟩
    rw [hm] at f1 f2 f3 f4 f5 f6 f7 f9 f11 f12 f14 f15 f16 f17
    rw [← HN.out] at f1 f2 f3 f5 f6 f7 f12 f13 f14 f16 f17
    have HML := Lib.hid hm
    have HOK := Lib.hid hok
    have HMN := Lib.hid f5.symm
    have hmm : m.length ≤ maxLen := by rw [f5]; simp only [maxLen]; omega
    have F1 := Lib.hid f1
    have F2 := Lib.hid f2
    have F3 := Lib.hid f3
    have F4 := Lib.hid f4
    have F6 := Lib.hid f6
    have F7 := Lib.hid f7
    have F8 := Lib.hid f8
    have F9 := Lib.hid f9
    have F10 := Lib.hid f10
    have F11 := Lib.hid f11
    have F12 := Lib.hid f12
    have F14 := Lib.hid f14
    have F15 := Lib.hid f15
    clear hm hok f1 f2 f3 f4 f5 f6 f7 f8 f9 f10 f11 f12 f14 f15
    go_wp2_with fail
    refine (iMerge_at W ll N HN.out B d hll hlm a b (N + 1) m true HMN.out HML.out HOK.out _ (Below.refl _ _)).mono ?_
    rintro e w1 ⟨A1, c1, rfl, hl1, g1, g2, b1⟩
    go_wp2_with fail
    refine (sMerge_at w1 ll N HN.out B d (hll.moved b1) hlm a b (N + 1) m true HMN.out HML.out HOK.out _ (Below.refl _ _)).mono ?_
    rintro e w2 ⟨A2', c2', rfl, hl2, g3, g4, b2⟩
    go_wp2_with fail
    refine (same_at w2 m A1 A2' (N + 1) (N + 1) c1 c2' HMN.out HMN.out hmm (hl1.moved b2) hl2 _ (Below.refl _ _)).mono ?_
    rintro e w3 ⟨rfl, b3⟩
    have HB2 := Lib.hid (bth HBW.out (bth b1 b2))
    have hO := hl1.moved b2
    have hL := (hll.moved b1).moved b2
    have HO := Lib.hid hO; have HL := Lib.hid hL
    clear hO hL hl1 hl2 b1 b2 hll HBW
    have HE := Lib.hid (show lmerge ll a a = [] by simp [lmerge, F10.out])
    go_wp2_with fail
    refine (iMerge_at w2 ll N HN.out B d HL.out hlm b a (N + 1) m true HMN.out F9.out F8.out _ b3).mono ?_
    rintro e w4 ⟨A4, c4, rfl, hl4, g5, g6, b4⟩
    go_wp2_with fail
    refine (iMerge_at w4 ll N HN.out B d (HL.out.moved b4) hlm a a 0 [] false rfl HE.out F10.out _ (Below.refl _ _)).mono ?_
    rintro e w5 ⟨A5, c5, rfl, hl5, g7, g8, b5⟩
    go_wp2_with fail
    refine (same_at w4 m A4 A1 (N + 1) (N + 1) c4 c1 HMN.out HMN.out hmm hl4 (HO.out.moved b4) _ b5).mono ?_
    rintro e w6 ⟨rfl, b6⟩
    go_wp2
    go_ret
    exact ⟨by first | rfl | exact retb (by simp; omega) | exact retb (by simp), bth HB2.out (bth b4 b6)⟩
set_option maxHeartbeats 2000000 in
theorem w_LadderMergeSame (A : Option Addr) (n c : Nat) (hnc : n ≤ c) (hn : n ≤ maxLen) (w : World) (hb : Bytes w w.heap.size A n) :
    Calls Try.prog 12 #[.slice A n c] w fun e w' => e = .returned (.bool true) ∧ Below w.heap.size w w' := by
  have hn2 := hn
  unfold maxLen at hn2
  have hall : 1048576 < n ∨ ¬ 1048576 < n := by omega
  rcases hall with hbig | hbig
  · go_enter Try.func12, Try.ntmps12
    go_wp2
    go_ret
    exact ⟨rfl, Below.refl _ _⟩
  · go_enter Try.func12, Try.ntmps12
    go_wp2_with fail
    refine (drawM_any A n c hnc hn _ hb).mono ?_
    rintro e W ⟨ll, B, d, a, b, rfl, hll, hlen, hld, hd, a0, a1, b0, b1', hbW⟩
    have HBW := Lib.hid hbW; clear hbW hb
    have hlm : ll.length ≤ maxLen := by simp only [maxLen]; omega
    obtain ⟨N, hN⟩ : ∃ N, N = ll.length := ⟨_, rfl⟩
    rw [← hN] at hlen hld
    rw [← hN]
    have HN := Lib.hid hN; clear hN
    cases hok : mergeOk ll a b
    · have HL := Lib.hid (show lmerge ll a b = [] by simp [lmerge, hok])
      have HOK := Lib.hid hok; clear hok
      have hem : ([] : List (List Int)).length ≤ maxLen := by simp [maxLen]
      go_wp2_with fail
      refine (iMerge_at W ll N HN.out B d hll hlm a b 0 [] false rfl HL.out HOK.out _ (Below.refl _ _)).mono ?_
      rintro e w1 ⟨A1, c1, rfl, hl1, g1, g2, b1⟩
      go_wp2_with fail
      refine (sMerge_at w1 ll N HN.out B d (hll.moved b1) hlm a b 0 [] false rfl HL.out HOK.out _ (Below.refl _ _)).mono ?_
      rintro e w2 ⟨A2', c2', rfl, hl2, g3, g4, b2⟩
      go_wp2_with fail
      refine (same_at w2 [] A1 A2' 0 0 c1 c2' rfl rfl hem (hl1.moved b2) hl2 _ (Below.refl _ _)).mono ?_
      rintro e w3 ⟨rfl, b3⟩
      go_wp2_with fail
      refine (same_at w2 [] A1 A2' 0 0 c1 c2' rfl rfl hem (hl1.moved b2) hl2 _ b3).mono ?_
      rintro e w4 ⟨rfl, b4⟩
      go_wp2
      go_ret
      exact ⟨by first | rfl | exact retb (by simp; omega) | exact retb (by simp), bth HBW.out (bth b1 (bth b2 b4))⟩
    obtain ⟨f1, f2, f3, f4, f5, f6, f7, f8, f9, f10, f11, f12, f13, f14, f15, f16, f17⟩ := m_merge hok
    have hN3 : N ≤ 3 := by rw [HN.out]; exact lad_len3 (mergeOk_in hok).1
    have hN2 : N ≤ 2 := by have := (mergeOk_in hok).2.2.2.2.2; rw [← HN.out] at this; omega
    obtain ⟨m, hm⟩ : ∃ m, lmerge ll a b = m := ⟨_, rfl⟩
    rw [hm] at f1 f2 f3 f4 f5 f6 f7 f9 f11 f12 f14 f15 f16 f17
    rw [← HN.out] at f1 f2 f3 f5 f6 f7 f12 f13 f14 f16 f17
    have HML := Lib.hid hm
    have HOK := Lib.hid hok
    have HMN := Lib.hid f5.symm
    have hmm : m.length ≤ maxLen := by rw [f5]; simp only [maxLen]; omega
    have F1 := Lib.hid f1
    have F2 := Lib.hid f2
    have F3 := Lib.hid f3
    have F4 := Lib.hid f4
    have F6 := Lib.hid f6
    have F7 := Lib.hid f7
    have F8 := Lib.hid f8
    have F9 := Lib.hid f9
    have F10 := Lib.hid f10
    have F11 := Lib.hid f11
    have F12 := Lib.hid f12
    have F14 := Lib.hid f14
    have F15 := Lib.hid f15
    clear hm hok f1 f2 f3 f4 f5 f6 f7 f8 f9 f10 f11 f12 f14 f15
    go_wp2_with fail
    refine (iMerge_at W ll N HN.out B d hll hlm a b (N + 1) m true HMN.out HML.out HOK.out _ (Below.refl _ _)).mono ?_
    rintro e w1 ⟨A1, c1, rfl, hl1, g1, g2, b1⟩
    go_wp2_with fail
    refine (sMerge_at w1 ll N HN.out B d (hll.moved b1) hlm a b (N + 1) m true HMN.out HML.out HOK.out _ (Below.refl _ _)).mono ?_
    rintro e w2 ⟨A2', c2', rfl, hl2, g3, g4, b2⟩
    go_wp2_with fail
    refine (same_at w2 m A1 A2' (N + 1) (N + 1) c1 c2' HMN.out HMN.out hmm (hl1.moved b2) hl2 _ (Below.refl _ _)).mono ?_
    rintro e w3 ⟨rfl, b3⟩
    have HB2 := Lib.hid (bth HBW.out (bth b1 b2))
    have hO := hl1.moved b2
    have hL := (hll.moved b1).moved b2
    have HO := Lib.hid hO; have HL := Lib.hid hL
    clear hO hL hl1 hl2 b1 b2 hll HBW
    have HE := Lib.hid (show lmerge m a b = [] by simp [lmerge, F11.out])
    obtain ⟨x, hx⟩ : ∃ x, lcode m (N + 1) a = x := ⟨_, rfl⟩
    have HX := Lib.hid hx
    have HF := Lib.hid (show mergeOk m x b = false by rw [← hx]; exact F12.out)
    have HE2 := Lib.hid (show lmerge m x b = [] by simp [lmerge, HF.out])
    clear hx
    go_wp2_with fail
    refine (iMerge_at w2 m _ HMN.out A1 c1 HO.out hmm a b 0 [] false rfl HE.out F11.out _ b3).mono ?_
    rintro e w4 ⟨A4, c4, rfl, hl4, g5, g6, b4⟩
    go_wp2_with fail
    refine (iCode_at w2 m _ HMN.out A1 c1 HO.out hmm _ a x true HX.out F1.out _ b4).mono ?_
    rintro e w5 ⟨rfl, b5⟩
    go_wp2_with fail
    refine (iMerge_at w2 m _ HMN.out A1 c1 HO.out hmm x b 0 [] false rfl HE2.out HF.out _ b5).mono ?_
    rintro e w6 ⟨A6, c6, rfl, hl6, g7, g8, b6⟩
    go_wp2
    go_ret
    exact ⟨by first | rfl | exact retb (by simp; omega) | exact retb (by simp), bth HB2.out b6⟩
end Go.Proofs.Ytedmohmedldcgaa
