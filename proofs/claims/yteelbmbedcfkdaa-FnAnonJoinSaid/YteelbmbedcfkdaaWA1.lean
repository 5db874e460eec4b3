/- Laws of chapter 4 on dropped people. -/
import Derived.Test.YteelbmbedcfkdaaAI2
import Derived.Test.YteelbmbedcfkdaaAS
import Derived.Test.YteelbmbedcfkdaaAD
import Derived.Test.YteelbmbedcfkdaaA2
import Derived.Test.YteelbmbedcfkdaaA4
namespace Go.Proofs.Yteelbmbedcfkdaa
open Go.RowKit
set_option maxHeartbeats 2000000 in
theorem w_DropCoarser (A : Option Addr) (n c : Nat) (hnc : n ≤ c) (hn : n ≤ maxLen) (w : World) (hb : Bytes w w.heap.size A n) :
    Calls Try.prog 4 #[.slice A n c] w fun e w' => e = .returned (.bool true) ∧ Below w.heap.size w w' := by
  have hn2 := hn
  unfold maxLen at hn2
  rcases (show 1048576 < n ∨ ¬ 1048576 < n by omega) with hbig | hbig
  · go_enter Try.func4, Try.ntmps4
    go_wp2
    go_ret
    exact ⟨rfl, Below.refl _ _⟩
  · go_enter Try.func4, Try.ntmps4
    go_wp2_with fail
    refine (dAnonDrop_any A n c hnc hn _ hb).mono ?_
    rintro e W ⟨l, v, ll, u, r, k, rfl, hv, hu, hl, hll, _, k0, k1, hbW⟩
    obtain ⟨W1, hW⟩ : ∃ W1, W1 = W.alloc (.cells #[.int .i64 r.area, .int .i64 r.job, .int .i64 r.sex] TRc) := ⟨_, rfl⟩
    have hb1 : Below W.heap.size W W1 := by rw [hW]; exact (Below.refl _ _).alloc (Nat.le_refl _) _
    have hzW : W.heap.size < W1.heap.size := by rw [hW]; simp
    have e0 : W1.cell? ⟨W.heap.size, 0, none⟩ = some (.int .i64 r.area) := by rw [hW]; simp [go_sem]
    have e1 : W1.cell? ⟨W.heap.size, 1, none⟩ = some (.int .i64 r.job) := by rw [hW]; simp [go_sem]
    have e2 : W1.cell? ⟨W.heap.size, 2, none⟩ = some (.int .i64 r.sex) := by rw [hW]; simp [go_sem]
    have HC := Lib.hid (show ∀ w', Below W1.heap.size W1 w' → w'.cell? ⟨W.heap.size, 0, none⟩ = some (.int .i64 r.area) ∧ w'.cell? ⟨W.heap.size, 1, none⟩ = some (.int .i64 r.job) ∧ w'.cell? ⟨W.heap.size, 2, none⟩ = some (.int .i64 r.sex) from
      fun w' h => ⟨(h.cell (p := ⟨W.heap.size, 0, none⟩) hzW).trans e0, (h.cell (p := ⟨W.heap.size, 1, none⟩) hzW).trans e1, (h.cell (p := ⟨W.heap.size, 2, none⟩) hzW).trans e2⟩)
    have HV := Lib.hid (hv.below hb1)
    have HU := Lib.hid (hu.below hb1)
    have HB := Lib.hid (hbW.trans (hb1.mono hbW.size))
    have b0 := Below.refl W1.heap.size W1
    clear e0 e1 e2 hv hu hbW hb hb1
    rcases (show adrop l ll r k < 0 ∨ 0 ≤ adrop l ll r k by omega) with hneg | hg0
    · have HG := Lib.hid (adrop_neg hneg)
      clear hneg
      go_wp2_with fail
      rw [← hW]
      clear hW
      refine (iADrop_is W1 l _ HV.out ll _ HU.out r k (-1) HG.out _ b0).mono ?_
      rintro e w1 ⟨rfl, b1⟩
      obtain ⟨c0, c1, c2⟩ := HC.out _ b1
      go_wp2_with fail
      refine (sADrop_is W1 l _ HV.out ll _ HU.out r k (-1) HG.out _ b1).mono ?_
      rintro e w2 ⟨rfl, b2⟩
      go_wp2
      go_ret
      exact ⟨by first | rfl | exact retb (by simp) | exact retb (by simp; omega), HB.out.trans (b2.mono HB.out.size)⟩
    · obtain ⟨g, hg⟩ : ∃ g, adrop l ll r k = g := ⟨_, rfl⟩
      obtain ⟨f0, f1, f2⟩ := m_dropCoarser hg0
      obtain ⟨T, hT⟩ : ∃ T, adrop l ll (rtop ll) k = T := ⟨_, rfl⟩
      obtain ⟨L, hL⟩ : ∃ L, adrop l ll rlow k = L := ⟨_, rfl⟩
      rw [hg] at f1 f2 hg0
      rw [hT] at f0 f1
      rw [hL] at f2
      have HG := Lib.hid hg; have HT := Lib.hid hT; have HL := Lib.hid hL
      clear hg hT hL
      obtain ⟨Au, cu, hu2, _, _, _⟩ := HU.out
      subst hu2
      go_wp2_with fail
      rw [← hW]
      clear hW
      refine (iADrop_is W1 l _ HV.out ll _ HU.out r k _ HG.out _ b0).mono ?_
      rintro e w1 ⟨rfl, b1⟩
      obtain ⟨c0, c1, c2⟩ := HC.out _ b1
      go_wp2_with fail
      refine (sADrop_is W1 l _ HV.out ll _ HU.out r k _ HG.out _ b1).mono ?_
      rintro e w2 ⟨rfl, b2⟩
      clear c0 c1 c2
      obtain ⟨c0, c1, c2⟩ := HC.out _ b2
      go_wp2_with fail
      refine (iADrop_is W1 l _ HV.out ll _ HU.out (rtop ll) k T HT.out _ b2).mono ?_
      rintro e w3 ⟨rfl, b3⟩
      clear c0 c1 c2
      obtain ⟨c0, c1, c2⟩ := HC.out _ b3
      go_wp2_with fail
      refine (iADrop_is W1 l _ HV.out ll _ HU.out rlow k L HL.out _ b3).mono ?_
      rintro e w4 ⟨rfl, b4⟩
      go_wp2
      go_ret
      exact ⟨by first | rfl | exact retb (by simp) | exact retb (by simp; omega), HB.out.trans (b4.mono HB.out.size)⟩
set_option maxHeartbeats 2000000 in
theorem w_DropAll (A : Option Addr) (n c : Nat) (hnc : n ≤ c) (hn : n ≤ maxLen) (w : World) (hb : Bytes w w.heap.size A n) :
    Calls Try.prog 9 #[.slice A n c] w fun e w' => e = .returned (.bool true) ∧ Below w.heap.size w w' := by
  have hn2 := hn
  unfold maxLen at hn2
  rcases (show 1048576 < n ∨ ¬ 1048576 < n by omega) with hbig | hbig
  · go_enter Try.func9, Try.ntmps9
    go_wp2
    go_ret
    exact ⟨rfl, Below.refl _ _⟩
  · go_enter Try.func9, Try.ntmps9
    go_wp2_with fail
    refine (dAnonDrop_any A n c hnc hn _ hb).mono ?_
    rintro e W ⟨l, v, ll, u, r, k, rfl, hv, hu, hl, hll, _, k0, k1, hbW⟩
    obtain ⟨W1, hW⟩ : ∃ W1, W1 = W.alloc (.cells #[.int .i64 r.area, .int .i64 r.job, .int .i64 r.sex] TRc) := ⟨_, rfl⟩
    have hb1 : Below W.heap.size W W1 := by rw [hW]; exact (Below.refl _ _).alloc (Nat.le_refl _) _
    have hzW : W.heap.size < W1.heap.size := by rw [hW]; simp
    have e0 : W1.cell? ⟨W.heap.size, 0, none⟩ = some (.int .i64 r.area) := by rw [hW]; simp [go_sem]
    have e1 : W1.cell? ⟨W.heap.size, 1, none⟩ = some (.int .i64 r.job) := by rw [hW]; simp [go_sem]
    have e2 : W1.cell? ⟨W.heap.size, 2, none⟩ = some (.int .i64 r.sex) := by rw [hW]; simp [go_sem]
    have HC := Lib.hid (show ∀ w', Below W1.heap.size W1 w' → w'.cell? ⟨W.heap.size, 0, none⟩ = some (.int .i64 r.area) ∧ w'.cell? ⟨W.heap.size, 1, none⟩ = some (.int .i64 r.job) ∧ w'.cell? ⟨W.heap.size, 2, none⟩ = some (.int .i64 r.sex) from
      fun w' h => ⟨(h.cell (p := ⟨W.heap.size, 0, none⟩) hzW).trans e0, (h.cell (p := ⟨W.heap.size, 1, none⟩) hzW).trans e1, (h.cell (p := ⟨W.heap.size, 2, none⟩) hzW).trans e2⟩)
    have HV := Lib.hid (hv.below hb1)
    have HU := Lib.hid (hu.below hb1)
    have HB := Lib.hid (hbW.trans (hb1.mono hbW.size))
    have b0 := Below.refl W1.heap.size W1
    clear e0 e1 e2 hv hu hbW hb hb1
    rcases (show adrop l ll r k < 0 ∨ 0 ≤ adrop l ll r k by omega) with hneg | hg0
    · have HG := Lib.hid (adrop_neg hneg)
      clear hneg
      go_wp2_with fail
      rw [← hW]
      clear hW
      refine (iADrop_is W1 l _ HV.out ll _ HU.out r k (-1) HG.out _ b0).mono ?_
      rintro e w1 ⟨rfl, b1⟩
      obtain ⟨c0, c1, c2⟩ := HC.out _ b1
      go_wp2_with fail
      refine (sADrop_is W1 l _ HV.out ll _ HU.out r k (-1) HG.out _ b1).mono ?_
      rintro e w2 ⟨rfl, b2⟩
      go_wp2
      go_ret
      exact ⟨by first | rfl | exact retb (by simp) | exact retb (by simp; omega), HB.out.trans (b2.mono HB.out.size)⟩
    · obtain ⟨g, hg⟩ : ∃ g, adrop l ll r k = g := ⟨_, rfl⟩
      have hcase := m_dropAll hg0
      rw [hg] at hcase hg0
      have HG := Lib.hid hg
      clear hg
      obtain ⟨Av, cv, hv2, _, _, _⟩ := HV.out
      subst hv2
      obtain ⟨q, hq⟩ : ∃ q, l.length = q := ⟨_, rfl⟩
      rw [hq] at HV hl hcase ⊢
      clear hq
      have hcase2 : k ≤ (q : Int) ∨ (¬ k ≤ (q : Int) ∧ (g == (q : Int)) = true) := by
        by_cases h : k ≤ (q : Int)
        · exact .inl h
        · right; refine ⟨h, ?_⟩; rw [beq_iff_eq]; omega
      clear hcase
      go_wp2_with fail
      rw [← hW]
      clear hW
      refine (iADrop_is W1 l _ HV.out ll _ HU.out r k _ HG.out _ b0).mono ?_
      rintro e w1 ⟨rfl, b1⟩
      obtain ⟨c0, c1, c2⟩ := HC.out _ b1
      go_wp2_with fail
      refine (sADrop_is W1 l _ HV.out ll _ HU.out r k _ HG.out _ b1).mono ?_
      rintro e w2 ⟨rfl, b2⟩
      clear c0 c1 c2
      obtain ⟨c0, c1, c2⟩ := HC.out _ b2
      clear c0 c1 c2
      rcases hcase2 with h1 | ⟨h1, h2⟩
      all_goals
        go_wp2
        go_ret
        exact ⟨by first | rfl | exact retb (by simp) | exact retb (by simp; omega), HB.out.trans (b2.mono HB.out.size)⟩
set_option maxHeartbeats 4000000 in
theorem w_Drop (A : Option Addr) (n c : Nat) (hnc : n ≤ c) (hn : n ≤ maxLen) (w : World) (hb : Bytes w w.heap.size A n) :
    Calls Try.prog 3 #[.slice A n c] w fun e w' => e = .returned (.bool true) ∧ Below w.heap.size w w' := by
  have hn2 := hn
  unfold maxLen at hn2
  rcases (show 1048576 < n ∨ ¬ 1048576 < n by omega) with hbig | hbig
  · go_enter Try.func3, Try.ntmps3
    go_wp2
    go_ret
    exact ⟨rfl, Below.refl _ _⟩
  · go_enter Try.func3, Try.ntmps3
    go_wp2_with fail
    refine (dAnonDrop_any A n c hnc hn _ hb).mono ?_
    rintro e W ⟨l, v, ll, u, r, k, rfl, hv, hu, hl, hll, _, k0, k1, hbW⟩
    obtain ⟨W1, hW⟩ : ∃ W1, W1 = W.alloc (.cells #[.int .i64 r.area, .int .i64 r.job, .int .i64 r.sex] TRc) := ⟨_, rfl⟩
    have hb1 : Below W.heap.size W W1 := by rw [hW]; exact (Below.refl _ _).alloc (Nat.le_refl _) _
    have hzW : W.heap.size < W1.heap.size := by rw [hW]; simp
    have e0 : W1.cell? ⟨W.heap.size, 0, none⟩ = some (.int .i64 r.area) := by rw [hW]; simp [go_sem]
    have e1 : W1.cell? ⟨W.heap.size, 1, none⟩ = some (.int .i64 r.job) := by rw [hW]; simp [go_sem]
    have e2 : W1.cell? ⟨W.heap.size, 2, none⟩ = some (.int .i64 r.sex) := by rw [hW]; simp [go_sem]
    have HC := Lib.hid (show ∀ w', Below W1.heap.size W1 w' → w'.cell? ⟨W.heap.size, 0, none⟩ = some (.int .i64 r.area) ∧ w'.cell? ⟨W.heap.size, 1, none⟩ = some (.int .i64 r.job) ∧ w'.cell? ⟨W.heap.size, 2, none⟩ = some (.int .i64 r.sex) from
      fun w' h => ⟨(h.cell (p := ⟨W.heap.size, 0, none⟩) hzW).trans e0, (h.cell (p := ⟨W.heap.size, 1, none⟩) hzW).trans e1, (h.cell (p := ⟨W.heap.size, 2, none⟩) hzW).trans e2⟩)
    have HV := Lib.hid (hv.below hb1)
    have HU := Lib.hid (hu.below hb1)
    have HB := Lib.hid (hbW.trans (hb1.mono hbW.size))
    have b0 := Below.refl W1.heap.size W1
    clear e0 e1 e2 hv hu hbW hb hb1
    rcases (show adrop l ll r k < 0 ∨ 0 ≤ adrop l ll r k by omega) with hneg | hg0
    · have HG := Lib.hid (adrop_neg hneg)
      clear hneg
      go_wp2_with fail
      rw [← hW]
      clear hW
      refine (iADrop_is W1 l _ HV.out ll _ HU.out r k (-1) HG.out _ b0).mono ?_
      rintro e w1 ⟨rfl, b1⟩
      obtain ⟨c0, c1, c2⟩ := HC.out _ b1
      go_wp2_with fail
      refine (sADrop_is W1 l _ HV.out ll _ HU.out r k (-1) HG.out _ b1).mono ?_
      rintro e w2 ⟨rfl, b2⟩
      go_wp2
      go_ret
      exact ⟨by first | rfl | exact retb (by simp) | exact retb (by simp; omega), HB.out.trans (b2.mono HB.out.size)⟩
    · obtain ⟨g, hg⟩ : ∃ g, adrop l ll r k = g := ⟨_, rfl⟩
      obtain ⟨m1, m2, m3⟩ := m_drop hg0
      obtain ⟨X, hX⟩ : ∃ X, adrop l ll r (k + 1) = X := ⟨_, rfl⟩
      rw [hg] at m1 m3 hg0
      rw [hX] at m3
      have HG := Lib.hid hg; have H1 := Lib.hid m2; have HX := Lib.hid hX; have HM := Lib.hid m1
      clear hg hX m1 m2
      obtain ⟨Av, cv, hv2, _, _, _⟩ := HV.out
      subst hv2
      obtain ⟨q, hq⟩ : ∃ q, l.length = q := ⟨_, rfl⟩
      rw [hq] at HV hl HM ⊢
      clear hq
      have hcase : g ≤ X ∨ (¬ g ≤ X ∧ (k == 40) = true ∧ (X == -1) = true) := by
        by_cases h : g ≤ X
        · exact .inl h
        · right; refine ⟨h, ?_⟩; simp only [beq_iff_eq]; omega
      clear m3
      go_wp2_with fail
      rw [← hW]
      clear hW
      refine (iADrop_is W1 l _ HV.out ll _ HU.out r k _ HG.out _ b0).mono ?_
      rintro e w1 ⟨rfl, b1⟩
      obtain ⟨c0, c1, c2⟩ := HC.out _ b1
      go_wp2_with fail
      refine (sADrop_is W1 l _ HV.out ll _ HU.out r k _ HG.out _ b1).mono ?_
      rintro e w2 ⟨rfl, b2⟩
      clear c0 c1 c2
      obtain ⟨c0, c1, c2⟩ := HC.out _ b2
      clear c0 c1 c2
      have HB2 := Lib.hid b2
      go_wp2
      go_loopw [9, 10] (fun s i wr => ∃ j : Nat, j ≤ q ∧ i = .int .i64 j ∧ s = .int .i64 (dropTo l ll r k j : Nat) ∧ Below W1.heap.size W1 wr) (fun _ i _ => q - (intOf i).toNat)
      case atStart => exact ⟨0, Nat.zero_le _, rfl, rfl, HB2.out⟩
      case round =>
        obtain ⟨j, hj, rfl, rfl, hb⟩ := hrel
        have hsl := dropTo_le l ll r k j
        have HN := Lib.hid (dropTo_succ l ll r k j)
        have HE := Lib.hid (show j = q → ((dropTo l ll r k j : Nat) : Int) = g from fun h => by rw [h]; exact HM.out)
        obtain ⟨s, hs⟩ : ∃ s, dropTo l ll r k j = s := ⟨_, rfl⟩
        rw [hs] at hsl HN HE ⊢
        clear hs
        obtain ⟨c0, c1, c2⟩ := HC.out _ hb
        by_cases hlt : j < q
        · have hji : (j : Int) < (q : Int) := by omega
          obtain ⟨z, hz⟩ : ∃ z, gsize l ll r j = z := ⟨_, rfl⟩
          rw [hz] at HN
          have HZ := Lib.hid hz
          clear hz
          go_wp2_with fail
          refine (iGSize_is W1 l _ HV.out ll _ HU.out r j z HZ.out _ hb).mono ?_
          rintro e w3 ⟨rfl, b3⟩
          clear c0 c1 c2
          by_cases hzk : z < k
          · rw [if_pos hzk] at HN
            go_wp2
            go_roundw
            case rel => exact ⟨j + 1, by omega, by go_num, by rw [HN.out]; go_num, b3⟩
            case measure => simp [intOf]; omega
          · rw [if_neg hzk] at HN
            go_wp2
            go_roundw
            case rel => exact ⟨j + 1, by omega, by go_num, by rw [HN.out]; simp, b3⟩
            case measure => simp [intOf]; omega
        · have hji : ¬ (j : Int) < (q : Int) := by omega
          have hE := HE.out (by omega)
          have hb1 : ((s : Int) == g) = true := by rw [beq_iff_eq]; exact hE
          clear hE HE HN
          go_wp2_with fail
          refine (iADrop_is W1 l _ HV.out ll _ HU.out r (k + 1) X HX.out _ hb).mono ?_
          rintro e w3 ⟨rfl, b3⟩
          clear c0 c1 c2
          obtain ⟨c0, c1, c2⟩ := HC.out _ b3
          go_wp2_with fail
          refine (iADrop_is W1 l _ HV.out ll _ HU.out r 1 0 H1.out _ b3).mono ?_
          rintro e w4 ⟨rfl, b4⟩
          clear c0 c1 c2
          rcases hcase with h1 | ⟨h1, h2, h3⟩
          all_goals
            go_wp2
            go_ret
            exact ⟨by first | rfl | exact retb (by simp) | exact retb (by simp; omega), HB.out.trans (b4.mono HB.out.size)⟩
set_option maxHeartbeats 4000000 in
theorem w_DropTwice (A : Option Addr) (n c : Nat) (hnc : n ≤ c) (hn : n ≤ maxLen) (w : World) (hb : Bytes w w.heap.size A n) :
    Calls Try.prog 10 #[.slice A n c] w fun e w' => e = .returned (.bool true) ∧ Below w.heap.size w w' := by
  have hn2 := hn
  unfold maxLen at hn2
  rcases (show 1048576 < n ∨ ¬ 1048576 < n by omega) with hbig | hbig
  · go_enter Try.func10, Try.ntmps10
    go_wp2
    go_ret
    exact ⟨rfl, Below.refl _ _⟩
  · go_enter Try.func10, Try.ntmps10
    go_wp2_with fail
    refine (dAnonDrop_any A n c hnc hn _ hb).mono ?_
    rintro e W ⟨l, v, ll, u, r, k, rfl, hv, hu, hl, hll, _, k0, k1, hbW⟩
    obtain ⟨W1, hW⟩ : ∃ W1, W1 = W.alloc (.cells #[.int .i64 r.area, .int .i64 r.job, .int .i64 r.sex] TRc) := ⟨_, rfl⟩
    have hb1 : Below W.heap.size W W1 := by rw [hW]; exact (Below.refl _ _).alloc (Nat.le_refl _) _
    have hzW : W.heap.size < W1.heap.size := by rw [hW]; simp
    have e0 : W1.cell? ⟨W.heap.size, 0, none⟩ = some (.int .i64 r.area) := by rw [hW]; simp [go_sem]
    have e1 : W1.cell? ⟨W.heap.size, 1, none⟩ = some (.int .i64 r.job) := by rw [hW]; simp [go_sem]
    have e2 : W1.cell? ⟨W.heap.size, 2, none⟩ = some (.int .i64 r.sex) := by rw [hW]; simp [go_sem]
    have HC := Lib.hid (show ∀ w', Below W1.heap.size W1 w' → w'.cell? ⟨W.heap.size, 0, none⟩ = some (.int .i64 r.area) ∧ w'.cell? ⟨W.heap.size, 1, none⟩ = some (.int .i64 r.job) ∧ w'.cell? ⟨W.heap.size, 2, none⟩ = some (.int .i64 r.sex) from
      fun w' h => ⟨(h.cell (p := ⟨W.heap.size, 0, none⟩) hzW).trans e0, (h.cell (p := ⟨W.heap.size, 1, none⟩) hzW).trans e1, (h.cell (p := ⟨W.heap.size, 2, none⟩) hzW).trans e2⟩)
    have HV := Lib.hid (hv.below hb1)
    have HU := Lib.hid (hu.below hb1)
    have HB := Lib.hid (hbW.trans (hb1.mono hbW.size))
    have b0 := Below.refl W1.heap.size W1
    clear e0 e1 e2 hv hu hbW hb hb1
    rcases (show adrop l ll r k < 0 ∨ 0 ≤ adrop l ll r k by omega) with hneg | hg0
    · have HG := Lib.hid (adrop_neg hneg)
      clear hneg
      go_wp2_with fail
      rw [← hW]
      clear hW
      refine (iADrop_is W1 l _ HV.out ll _ HU.out r k (-1) HG.out _ b0).mono ?_
      rintro e w1 ⟨rfl, b1⟩
      obtain ⟨c0, c1, c2⟩ := HC.out _ b1
      go_wp2_with fail
      refine (sADrop_is W1 l _ HV.out ll _ HU.out r k (-1) HG.out _ b1).mono ?_
      rintro e w2 ⟨rfl, b2⟩
      go_wp2
      go_ret
      exact ⟨by first | rfl | exact retb (by simp) | exact retb (by simp; omega), HB.out.trans (b2.mono HB.out.size)⟩
    · obtain ⟨g, hg⟩ : ∃ g, adrop l ll r k = g := ⟨_, rfl⟩
      have hT := fun h => m_dropTwice hg0 (show 2 * l.length ≤ 40 by omega) h
      have hgl := (adrop_le l ll r k).2
      rw [hg] at hg0 hT hgl
      have HT := Lib.hid hT
      have HG := Lib.hid hg
      clear hg hT
      obtain ⟨Au, cu, hu2, _, _, _⟩ := HU.out
      subst hu2
      obtain ⟨Av, cv, hv2, hd1, hd2, hrow1⟩ := HV.out
      subst hv2
      have h2l : ¬ (40 : Int) < 2 * (l.length : Int) := by omega
      have hkc : 2 * k ≤ 40 ∨ 40 < 2 * k := by omega
      have hgl2 : g ≤ 10 := by omega
      go_wp2_with fail
      rw [← hW]
      clear hW
      refine (iADrop_is W1 l _ HV.out ll _ HU.out r k _ HG.out _ b0).mono ?_
      rintro e w1 ⟨rfl, b1⟩
      obtain ⟨c0, c1, c2⟩ := HC.out _ b1
      go_wp2_with fail
      refine (sADrop_is W1 l _ HV.out ll _ HU.out r k _ HG.out _ b1).mono ?_
      rintro e w2 ⟨rfl, b2⟩
      clear c0 c1 c2
      obtain ⟨c0, c1, c2⟩ := HC.out _ b2
      clear c0 c1 c2
      rcases hkc with hk | hk
      · have HT2 := Lib.hid (HT.out hk)
        have hk' : ¬ (40 : Int) < 2 * k := by omega
        have hrow2 : Row w2 w2.heap.size Av (pcells l) := (hrow1.below b2 (Nat.le_refl _)).more b2.size
        have o0 : Own (w2.alloc (.cells #[] TP)) w2.heap.size (.slice (some ⟨w2.heap.size, 0, none⟩) 0 0) [] := own_new w2 w2 (Below.refl _ _)
        have b0' : Below w2.heap.size w2 (w2.alloc (.cells #[] TP)) := (Below.refl _ _).alloc (Nat.le_refl _) _
        go_wp2_with (first
          | (at_builtin
             refine appP rfl (.tmp 51) (.tmp 52) rfl w2.heap.size (.slice (some ⟨w2.heap.size, 0, none⟩) 0 0) [] rfl o0 w2.heap.size Av l.length cv l rfl rfl (hrow2.below b0' (Nat.le_refl _)) (by simp; omega) b0'.size ?_
             intro v3 w3 ho3 hg3
             have hb3 : Below w2.heap.size w2 w3 := below_own b0' o0 hg3)
          | (at_builtin
             refine appP rfl (.tmp 53) (.tmp 54) rfl w2.heap.size v3 ([] ++ l) rfl ho3 w2.heap.size Av l.length cv l rfl rfl (hrow2.below hb3 (Nat.le_refl _)) (by simp; omega) hb3.size ?_
             intro v4 w4 ho4 hg4
             have hb4 : Below w2.heap.size w2 w4 := below_own hb3 ho3 hg4
             have b4 : Below W1.heap.size W1 w4 := b2.trans (hb4.mono b2.size)
             have HV4 := Lib.hid (show IsP w4 v4 (l ++ l) by simpa using ho4.isP')
             have HVL := Lib.hid (HV.out.below b4)
             have HU4 := Lib.hid (HU.out.below b4)
             have hz4 : W.heap.size < w4.heap.size := by have := b4.size; omega
             obtain ⟨c0, c1, c2⟩ := HC.out _ b4
             clear ho3 hg3 ho4 hg4 hb3 o0 b0' hrow2))
        go_wp2_with fail
        refine (iADrop_is w4 (l ++ l) v4 HV4.out ll _ HU4.out r (2 * k) (2 * g) HT2.out _ (Below.refl _ _)).mono ?_
        rintro e w5 ⟨rfl, b5⟩
        go_wp2
        go_ret
        exact ⟨by first | rfl | exact retb (by simp) | exact retb (by simp; omega), HB.out.trans ((b4.trans (b5.mono b4.size)).mono HB.out.size)⟩
      · have hk' : ¬ 2 * k ≤ (40 : Int) := by omega
        go_wp2
        go_ret
        exact ⟨by first | rfl | exact retb (by simp) | exact retb (by simp; omega), HB.out.trans (b2.mono HB.out.size)⟩
set_option maxHeartbeats 4000000 in
theorem w_DropOrder (A : Option Addr) (n c : Nat) (hnc : n ≤ c) (hn : n ≤ maxLen) (A2 : Option Addr) (m c2 : Nat) (_hmc : m ≤ c2) (hm : m ≤ maxLen) (w : World) (hb : Bytes w w.heap.size A n) (_hb2 : Bytes w w.heap.size A2 m) :
    Calls Try.prog 8 #[.slice A n c, .slice A2 m c2] w fun e w' => e = .returned (.bool true) ∧ Below w.heap.size w w' := by
  have hn2 := hn
  have hm2 := hm
  unfold maxLen at hn2 hm2
  rcases (show 1048576 < n ∨ (¬ 1048576 < n ∧ 1048576 < m) ∨ ¬ 1048576 < n ∧ ¬ 1048576 < m by omega) with hbig | ⟨hbig, hbig2⟩ | ⟨hbig, hbig2⟩
  · go_enter Try.func8, Try.ntmps8
    go_wp2
    go_ret
    exact ⟨rfl, Below.refl _ _⟩
  · go_enter Try.func8, Try.ntmps8
    go_wp2
    go_ret
    exact ⟨rfl, Below.refl _ _⟩
  · go_enter Try.func8, Try.ntmps8
    go_wp2_with fail
    refine (dAnonDrop_any A n c hnc hn _ hb).mono ?_
    rintro e W ⟨l, v, ll, u, r, k, rfl, hv, hu, hl, hll, _, k0, k1, hbW⟩
    obtain ⟨W1, hW⟩ : ∃ W1, W1 = W.alloc (.cells #[.int .i64 r.area, .int .i64 r.job, .int .i64 r.sex] TRc) := ⟨_, rfl⟩
    have hb1 : Below W.heap.size W W1 := by rw [hW]; exact (Below.refl _ _).alloc (Nat.le_refl _) _
    have hzW : W.heap.size < W1.heap.size := by rw [hW]; simp
    have e0 : W1.cell? ⟨W.heap.size, 0, none⟩ = some (.int .i64 r.area) := by rw [hW]; simp [go_sem]
    have e1 : W1.cell? ⟨W.heap.size, 1, none⟩ = some (.int .i64 r.job) := by rw [hW]; simp [go_sem]
    have e2 : W1.cell? ⟨W.heap.size, 2, none⟩ = some (.int .i64 r.sex) := by rw [hW]; simp [go_sem]
    have HC := Lib.hid (show ∀ w', Below W1.heap.size W1 w' → w'.cell? ⟨W.heap.size, 0, none⟩ = some (.int .i64 r.area) ∧ w'.cell? ⟨W.heap.size, 1, none⟩ = some (.int .i64 r.job) ∧ w'.cell? ⟨W.heap.size, 2, none⟩ = some (.int .i64 r.sex) from
      fun w' h => ⟨(h.cell (p := ⟨W.heap.size, 0, none⟩) hzW).trans e0, (h.cell (p := ⟨W.heap.size, 1, none⟩) hzW).trans e1, (h.cell (p := ⟨W.heap.size, 2, none⟩) hzW).trans e2⟩)
    have HV := Lib.hid (hv.below hb1)
    have HU := Lib.hid (hu.below hb1)
    have HB := Lib.hid (hbW.trans (hb1.mono hbW.size))
    have b0 := Below.refl W1.heap.size W1
    clear e0 e1 e2 hv hu hbW hb hb1
    rcases (show adrop l ll r k < 0 ∨ 0 ≤ adrop l ll r k by omega) with hneg | hg0
    · have HG := Lib.hid (adrop_neg hneg)
      clear hneg
      go_wp2_with fail
      rw [← hW]
      clear hW
      refine (iADrop_is W1 l _ HV.out ll _ HU.out r k (-1) HG.out _ b0).mono ?_
      rintro e w1 ⟨rfl, b1⟩
      obtain ⟨c0, c1, c2⟩ := HC.out _ b1
      go_wp2_with fail
      refine (sADrop_is W1 l _ HV.out ll _ HU.out r k (-1) HG.out _ b1).mono ?_
      rintro e w2 ⟨rfl, b2⟩
      go_wp2
      go_ret
      exact ⟨by first | rfl | exact retb (by simp) | exact retb (by simp; omega), HB.out.trans (b2.mono HB.out.size)⟩
    · obtain ⟨g, hg⟩ : ∃ g, adrop l ll r k = g := ⟨_, rfl⟩
      obtain ⟨Al, d, hv2, hd1, hd2, hrow1⟩ := HV.out
      subst hv2
      obtain ⟨j, hk, hkl⟩ := modCutA m l.length
      have HK := Lib.hid hk; clear hk
      have hperm : (l.drop j ++ l.take j).Perm l := by have h := List.perm_append_comm (l₁ := l.drop j) (l₂ := l.take j); rwa [List.take_append_drop] at h
      obtain ⟨f1, f2⟩ := m_dropOrder hg0 hperm
      rw [hg] at f1 f2 hg0
      have HL := Lib.hid f1; have HG := Lib.hid hg
      clear hg f1 hperm
      go_wp2_with fail
      rw [← hW]
      clear hW
      refine (iADrop_is W1 l _ HV.out ll _ HU.out r k _ HG.out _ b0).mono ?_
      rintro e w1 ⟨rfl, b1⟩
      obtain ⟨c0, c1, c2⟩ := HC.out _ b1
      go_wp2_with fail
      refine (sADrop_is W1 l _ HV.out ll _ HU.out r k _ HG.out _ b1).mono ?_
      rintro e w2 ⟨rfl, b2⟩
      clear c0 c1 c2
      obtain ⟨c0, c1, c2⟩ := HC.out _ b2
      clear c0 c1 c2
      go_wp2_with fail
      rw [HK.out]
      have hkd : j ≤ d := by omega
      have hkd2 : (j : Int) ≤ (d : Int) := by omega
      have hkl2 : (j : Int) ≤ (l.length : Int) := by omega
      have hrow2 : Row w2 w2.heap.size Al (pcells l) := (hrow1.below b2 (Nat.le_refl _)).more b2.size
      have r1 := hrow2.frontA (k := j)
      obtain ⟨B2, hsl, hB2⟩ := sliceTailA Al l.length d j hkl hd1
      have r2 := hB2 w2 _ l rfl hrow2
      clear hB2
      have n1 : j = (l.take j).length := by simp; omega
      have n2 : l.length - j = (l.drop j).length := by simp
      have N1 := Lib.hid n1; have N2 := Lib.hid n2; clear n1 n2
      have o0 : Own ((w2.alloc (.cells #[] TP)).drew) w2.heap.size (.slice (some ⟨w2.heap.size, 0, none⟩) 0 0) [] := own_new w2 w2 (Below.refl _ _)
      have b0' : Below w2.heap.size w2 ((w2.alloc (.cells #[] TP)).drew) := ((Below.refl _ _).alloc (Nat.le_refl _) _).drew
      go_region_law (first
        | (refine step_people rfl (.tmp 54) (.tmp 57) rfl w2.heap.size (.slice (some ⟨w2.heap.size, 0, none⟩) 0 0) [] rfl o0 w2.heap.size B2 (l.length - j) (d - j) (l.drop j) N2.out rfl (r2.below b0' (Nat.le_refl _)) (by simp; omega) b0'.size ?_
           intro v3 w3 ho3 hg3
           have hb3 : Below w2.heap.size w2 w3 := below_own b0' o0 hg3)
        | (refine step_people rfl (.tmp 58) (.tmp 61) rfl w2.heap.size v3 ([] ++ l.drop j) (by simp [Act.eval]) ho3 w2.heap.size Al j d (l.take j) N1.out rfl (r1.below hb3 (Nat.le_refl _)) (by simp; omega) hb3.size ?_
           intro v4 w4 ho4 hg4
           have hb4 : Below w2.heap.size w2 w4 := below_own hb3 ho3 hg4
           clear ho3 hg3 hg4))
      have b4 : Below W1.heap.size W1 w4 := b2.trans (hb4.mono b2.size)
      have HV4 := Lib.hid (show IsP w4 v4 (l.drop j ++ l.take j) by simpa using ho4.isP')
      have HVL := Lib.hid (HV.out.below b4)
      have HU4 := Lib.hid (HU.out.below b4)
      clear ho4 hb4 hb3 b0' o0 r1 r2 hsl hrow2
      have hz4 : W.heap.size < w4.heap.size := by have := b4.size; omega
      obtain ⟨c0, c1, c2⟩ := HC.out _ b4
      go_wp2_with fail
      refine (iADrop_is w4 _ v4 HV4.out ll _ HU4.out r k g HL.out _ (Below.refl _ _)).mono ?_
      rintro e w5 ⟨rfl, b5⟩
      go_wp2
      go_ret
      exact ⟨by first | rfl | exact retb (by simp) | exact retb (by simp; omega), HB.out.trans ((b4.trans (b5.mono b4.size)).mono HB.out.size)⟩
set_option maxHeartbeats 4000000 in
theorem w_AnonOk (A : Option Addr) (n c : Nat) (hnc : n ≤ c) (hn : n ≤ maxLen) (A2 : Option Addr) (m c2 : Nat) (_hmc : m ≤ c2) (hm : m ≤ maxLen) (w : World) (hb : Bytes w w.heap.size A n) (_hb2 : Bytes w w.heap.size A2 m) :
    Calls Try.prog 5 #[.slice A n c, .slice A2 m c2] w fun e w' => e = .returned (.bool true) ∧ Below w.heap.size w w' := by
  have hn2 := hn
  have hm2 := hm
  unfold maxLen at hn2 hm2
  rcases (show 1048576 < n ∨ (¬ 1048576 < n ∧ 1048576 < m) ∨ ¬ 1048576 < n ∧ ¬ 1048576 < m by omega) with hbig | ⟨hbig, hbig2⟩ | ⟨hbig, hbig2⟩
  · go_enter Try.func5, Try.ntmps5
    go_wp2
    go_ret
    exact ⟨rfl, Below.refl _ _⟩
  · go_enter Try.func5, Try.ntmps5
    go_wp2
    go_ret
    exact ⟨rfl, Below.refl _ _⟩
  · go_enter Try.func5, Try.ntmps5
    go_wp2_with fail
    refine (dAnonOk_any A n c hnc hn _ hb).mono ?_
    rintro e W ⟨l, v, ll, u, r, k, rfl, hv, hu, hl, hll, _, k0, k1, hbW⟩
    obtain ⟨W1, hW⟩ : ∃ W1, W1 = W.alloc (.cells #[.int .i64 r.area, .int .i64 r.job, .int .i64 r.sex] TRc) := ⟨_, rfl⟩
    have hb1 : Below W.heap.size W W1 := by rw [hW]; exact (Below.refl _ _).alloc (Nat.le_refl _) _
    have hzW : W.heap.size < W1.heap.size := by rw [hW]; simp
    have e0 : W1.cell? ⟨W.heap.size, 0, none⟩ = some (.int .i64 r.area) := by rw [hW]; simp [go_sem]
    have e1 : W1.cell? ⟨W.heap.size, 1, none⟩ = some (.int .i64 r.job) := by rw [hW]; simp [go_sem]
    have e2 : W1.cell? ⟨W.heap.size, 2, none⟩ = some (.int .i64 r.sex) := by rw [hW]; simp [go_sem]
    have HC := Lib.hid (show ∀ w', Below W1.heap.size W1 w' → w'.cell? ⟨W.heap.size, 0, none⟩ = some (.int .i64 r.area) ∧ w'.cell? ⟨W.heap.size, 1, none⟩ = some (.int .i64 r.job) ∧ w'.cell? ⟨W.heap.size, 2, none⟩ = some (.int .i64 r.sex) from
      fun w' h => ⟨(h.cell (p := ⟨W.heap.size, 0, none⟩) hzW).trans e0, (h.cell (p := ⟨W.heap.size, 1, none⟩) hzW).trans e1, (h.cell (p := ⟨W.heap.size, 2, none⟩) hzW).trans e2⟩)
    have HV := Lib.hid (hv.below hb1)
    have HU := Lib.hid (hu.below hb1)
    have HB := Lib.hid (hbW.trans (hb1.mono hbW.size))
    have b0 := Below.refl W1.heap.size W1
    clear e0 e1 e2 hv hu hbW hb hb1
    cases hok : aok l ll r k
    · have HG := Lib.hid hok
      clear hok
      go_wp2_with fail
      rw [← hW]
      clear hW
      refine (iAOk_is W1 l _ HV.out ll _ HU.out r k false HG.out _ b0).mono ?_
      rintro e w1 ⟨rfl, b1⟩
      obtain ⟨c0, c1, c2⟩ := HC.out _ b1
      go_wp2_with fail
      refine (sAOk_is W1 l _ HV.out ll _ HU.out r k false HG.out _ b1).mono ?_
      rintro e w2 ⟨rfl, b2⟩
      go_wp2
      go_ret
      exact ⟨by first | rfl | exact retb (by simp) | exact retb (by simp; omega), HB.out.trans (b2.mono HB.out.size)⟩
    · have HG := Lib.hid hok
      obtain ⟨m1, m2, m3, m4⟩ := m_anonOk hok
      obtain ⟨L, hL⟩ : ∃ L, gleast l ll r = L := ⟨_, rfl⟩
      rw [hL] at m3
      have HL := Lib.hid hL
      have hkp : (0 : Int) < k := by omega
      have hj0 := Int.emod_nonneg (m : Int) (show k ≠ 0 by omega)
      have hj1 := Int.emod_lt_of_pos (m : Int) hkp
      obtain ⟨j, hj⟩ : ∃ j, (m : Int) % k = j := ⟨_, rfl⟩
      rw [hj] at hj0 hj1
      have HJ := Lib.hid (show wrap64 (1 + (m : Int) % k) = 1 + j by rw [hj]; exact IntWalk.wrap64_in _ (by omega))
      have HA := Lib.hid (m4 (1 + j) (by omega) (by omega))
      have hkn : ¬ k = 0 := by omega
      clear hok hL hj m4
      obtain ⟨Av, cv, hv2, _, _, _⟩ := HV.out
      subst hv2
      have hcase : (l.length = 0) ∨ (((l.length : Int) == 0) = false ∧ k ≤ L) := by
        by_cases h : l.length = 0
        · exact .inl h
        · right; refine ⟨by rw [beq_eq_false_iff_ne]; omega, ?_⟩
          rcases m3 with h2 | h2
          · rw [h2] at h; exact absurd rfl h
          · exact h2
      obtain ⟨q, hq⟩ : ∃ q, l.length = q := ⟨_, rfl⟩
      rw [hq] at HV hl hcase ⊢
      clear hq m3
      go_wp2_with fail
      rw [← hW]
      clear hW
      refine (iAOk_is W1 l _ HV.out ll _ HU.out r k true HG.out _ b0).mono ?_
      rintro e w1 ⟨rfl, b1⟩
      obtain ⟨c0, c1, c2⟩ := HC.out _ b1
      go_wp2_with fail
      refine (sAOk_is W1 l _ HV.out ll _ HU.out r k true HG.out _ b1).mono ?_
      rintro e w2 ⟨rfl, b2⟩
      clear c0 c1 c2
      obtain ⟨c0, c1, c2⟩ := HC.out _ b2
      clear c0 c1 c2
      rcases hcase with hq0 | ⟨hq0, hkL⟩
      · subst hq0
        obtain ⟨c0, c1, c2⟩ := HC.out _ b2
        go_wp2_with fail
        rw [HJ.out]
        refine (iAOk_is W1 l _ HV.out ll _ HU.out r (1 + j) true HA.out _ b2).mono ?_
        rintro e w3 ⟨rfl, b3⟩
        go_wp2
        go_ret
        exact ⟨by first | rfl | exact retb (by simp) | exact retb (by simp; omega), HB.out.trans (b3.mono HB.out.size)⟩
      · obtain ⟨c0, c1, c2⟩ := HC.out _ b2
        go_wp2_with fail
        refine (iGLeast_is W1 l _ HV.out ll _ HU.out r L HL.out _ b2).mono ?_
        rintro e w3 ⟨rfl, b3⟩
        clear c0 c1 c2
        obtain ⟨c0, c1, c2⟩ := HC.out _ b3
        go_wp2_with fail
        rw [HJ.out]
        refine (iAOk_is W1 l _ HV.out ll _ HU.out r (1 + j) true HA.out _ b3).mono ?_
        rintro e w4 ⟨rfl, b4⟩
        go_wp2
        go_ret
        exact ⟨by first | rfl | exact retb (by simp) | exact retb (by simp; omega), HB.out.trans (b4.mono HB.out.size)⟩
set_option maxHeartbeats 4000000 in
theorem w_AnonJoin (A : Option Addr) (n c : Nat) (hnc : n ≤ c) (hn : n ≤ maxLen) (w : World) (hb : Bytes w w.heap.size A n) :
    Calls Try.prog 12 #[.slice A n c] w fun e w' => e = .returned (.bool true) ∧ Below w.heap.size w w' := by
  have hn2 := hn
  unfold maxLen at hn2
  rcases (show 1048576 < n ∨ ¬ 1048576 < n by omega) with hbig | hbig
  · go_enter Try.func12, Try.ntmps12
    go_wp2
    go_ret
    exact ⟨rfl, Below.refl _ _⟩
  · go_enter Try.func12, Try.ntmps12
    go_wp2_with fail
    refine (dAnonOk_any A n c hnc hn _ hb).mono ?_
    rintro e W ⟨l, v, ll, u, r, k, rfl, hv, hu, hl, hll, _, k0, k1, hbW⟩
    obtain ⟨W1, hW⟩ : ∃ W1, W1 = W.alloc (.cells #[.int .i64 r.area, .int .i64 r.job, .int .i64 r.sex] TRc) := ⟨_, rfl⟩
    have hb1 : Below W.heap.size W W1 := by rw [hW]; exact (Below.refl _ _).alloc (Nat.le_refl _) _
    have hzW : W.heap.size < W1.heap.size := by rw [hW]; simp
    have e0 : W1.cell? ⟨W.heap.size, 0, none⟩ = some (.int .i64 r.area) := by rw [hW]; simp [go_sem]
    have e1 : W1.cell? ⟨W.heap.size, 1, none⟩ = some (.int .i64 r.job) := by rw [hW]; simp [go_sem]
    have e2 : W1.cell? ⟨W.heap.size, 2, none⟩ = some (.int .i64 r.sex) := by rw [hW]; simp [go_sem]
    have HC := Lib.hid (show ∀ w', Below W1.heap.size W1 w' → w'.cell? ⟨W.heap.size, 0, none⟩ = some (.int .i64 r.area) ∧ w'.cell? ⟨W.heap.size, 1, none⟩ = some (.int .i64 r.job) ∧ w'.cell? ⟨W.heap.size, 2, none⟩ = some (.int .i64 r.sex) from
      fun w' h => ⟨(h.cell (p := ⟨W.heap.size, 0, none⟩) hzW).trans e0, (h.cell (p := ⟨W.heap.size, 1, none⟩) hzW).trans e1, (h.cell (p := ⟨W.heap.size, 2, none⟩) hzW).trans e2⟩)
    have HV := Lib.hid (hv.below hb1)
    have HU := Lib.hid (hu.below hb1)
    have HB := Lib.hid (hbW.trans (hb1.mono hbW.size))
    have b0 := Below.refl W1.heap.size W1
    clear e0 e1 e2 hv hu hbW hb hb1
    cases hok : aok l ll r k
    · have HG := Lib.hid hok
      clear hok
      go_wp2_with fail
      rw [← hW]
      clear hW
      refine (iAOk_is W1 l _ HV.out ll _ HU.out r k false HG.out _ b0).mono ?_
      rintro e w1 ⟨rfl, b1⟩
      obtain ⟨c0, c1, c2⟩ := HC.out _ b1
      go_wp2_with fail
      refine (sAOk_is W1 l _ HV.out ll _ HU.out r k false HG.out _ b1).mono ?_
      rintro e w2 ⟨rfl, b2⟩
      go_wp2
      go_ret
      exact ⟨by first | rfl | exact retb (by simp) | exact retb (by simp; omega), HB.out.trans (b2.mono HB.out.size)⟩
    · have HG := Lib.hid hok
      obtain ⟨m1, m2⟩ := m_anonJoin hok
      obtain ⟨m3, m4⟩ := m2 (by omega)
      have HA := Lib.hid m3; have HA2 := Lib.hid m4
      clear hok m1 m2 m3 m4
      obtain ⟨Au, cu, hu2, _, _, _⟩ := HU.out
      subst hu2
      obtain ⟨Av, cv, hv2, hd1, hd2, hrow1⟩ := HV.out
      subst hv2
      have hkc : 2 * k ≤ 40 ∨ 40 < 2 * k := by omega
      have h2l : ¬ (40 : Int) < (l.length : Int) + (l.length : Int) := by omega
      go_wp2_with fail
      rw [← hW]
      clear hW
      refine (iAOk_is W1 l _ HV.out ll _ HU.out r k true HG.out _ b0).mono ?_
      rintro e w1 ⟨rfl, b1⟩
      obtain ⟨c0, c1, c2⟩ := HC.out _ b1
      go_wp2_with fail
      refine (sAOk_is W1 l _ HV.out ll _ HU.out r k true HG.out _ b1).mono ?_
      rintro e w2 ⟨rfl, b2⟩
      clear c0 c1 c2
      obtain ⟨c0, c1, c2⟩ := HC.out _ b2
      clear c0 c1 c2
      rcases hkc with hk | hk
      · have HT2 := Lib.hid (HA2.out hk)
        have hk' : ¬ (40 : Int) < 2 * k := by omega
        have hrow2 : Row w2 w2.heap.size Av (pcells l) := (hrow1.below b2 (Nat.le_refl _)).more b2.size
        have o0 : Own (w2.alloc (.cells #[] TP)) w2.heap.size (.slice (some ⟨w2.heap.size, 0, none⟩) 0 0) [] := own_new w2 w2 (Below.refl _ _)
        have b0' : Below w2.heap.size w2 (w2.alloc (.cells #[] TP)) := (Below.refl _ _).alloc (Nat.le_refl _) _
        go_wp2_with (first
          | (at_builtin
             refine appP rfl (.tmp 40) (.tmp 41) rfl w2.heap.size (.slice (some ⟨w2.heap.size, 0, none⟩) 0 0) [] rfl o0 w2.heap.size Av l.length cv l rfl rfl (hrow2.below b0' (Nat.le_refl _)) (by simp; omega) b0'.size ?_
             intro v3 w3 ho3 hg3
             have hb3 : Below w2.heap.size w2 w3 := below_own b0' o0 hg3)
          | (at_builtin
             refine appP rfl (.tmp 42) (.tmp 43) rfl w2.heap.size v3 ([] ++ l) rfl ho3 w2.heap.size Av l.length cv l rfl rfl (hrow2.below hb3 (Nat.le_refl _)) (by simp; omega) hb3.size ?_
             intro v4 w4 ho4 hg4
             have hb4 : Below w2.heap.size w2 w4 := below_own hb3 ho3 hg4
             have b4 : Below W1.heap.size W1 w4 := b2.trans (hb4.mono b2.size)
             have HV4 := Lib.hid (show IsP w4 v4 (l ++ l) by simpa using ho4.isP')
             have HVL := Lib.hid (HV.out.below b4)
             have HU4 := Lib.hid (HU.out.below b4)
             have hz4 : W.heap.size < w4.heap.size := by have := b4.size; omega
             obtain ⟨c0, c1, c2⟩ := HC.out _ b4
             obtain ⟨A4, d4, hv4, _, _, _⟩ := HV4.out
             rw [List.length_append] at hv4
             subst hv4
             clear ho3 hg3 ho4 hg4 hb3 o0 b0' hrow2))
        go_wp2_with fail
        refine (iAOk_is w4 (l ++ l) _ HV4.out ll _ HU4.out r k true HA.out _ (Below.refl _ _)).mono ?_
        rintro e w5 ⟨rfl, b5⟩
        clear c0 c1 c2
        obtain ⟨c0, c1, c2⟩ := HC.out _ (b4.trans (b5.mono b4.size))
        go_wp2_with fail
        refine (iAOk_is w4 (l ++ l) _ HV4.out ll _ HU4.out r (2 * k) true HT2.out _ b5).mono ?_
        rintro e w6 ⟨rfl, b6⟩
        go_wp2
        go_ret
        exact ⟨by first | rfl | exact retb (by simp) | exact retb (by simp; omega), HB.out.trans ((b4.trans (b6.mono b4.size)).mono HB.out.size)⟩
      · have hk' : ¬ 2 * k ≤ (40 : Int) := by omega
        have hrow2 : Row w2 w2.heap.size Av (pcells l) := (hrow1.below b2 (Nat.le_refl _)).more b2.size
        have o0 : Own (w2.alloc (.cells #[] TP)) w2.heap.size (.slice (some ⟨w2.heap.size, 0, none⟩) 0 0) [] := own_new w2 w2 (Below.refl _ _)
        have b0' : Below w2.heap.size w2 (w2.alloc (.cells #[] TP)) := (Below.refl _ _).alloc (Nat.le_refl _) _
        go_wp2_with (first
          | (at_builtin
             refine appP rfl (.tmp 40) (.tmp 41) rfl w2.heap.size (.slice (some ⟨w2.heap.size, 0, none⟩) 0 0) [] rfl o0 w2.heap.size Av l.length cv l rfl rfl (hrow2.below b0' (Nat.le_refl _)) (by simp; omega) b0'.size ?_
             intro v3 w3 ho3 hg3
             have hb3 : Below w2.heap.size w2 w3 := below_own b0' o0 hg3)
          | (at_builtin
             refine appP rfl (.tmp 42) (.tmp 43) rfl w2.heap.size v3 ([] ++ l) rfl ho3 w2.heap.size Av l.length cv l rfl rfl (hrow2.below hb3 (Nat.le_refl _)) (by simp; omega) hb3.size ?_
             intro v4 w4 ho4 hg4
             have hb4 : Below w2.heap.size w2 w4 := below_own hb3 ho3 hg4
             have b4 : Below W1.heap.size W1 w4 := b2.trans (hb4.mono b2.size)
             have HV4 := Lib.hid (show IsP w4 v4 (l ++ l) by simpa using ho4.isP')
             have HVL := Lib.hid (HV.out.below b4)
             have HU4 := Lib.hid (HU.out.below b4)
             have hz4 : W.heap.size < w4.heap.size := by have := b4.size; omega
             obtain ⟨c0, c1, c2⟩ := HC.out _ b4
             obtain ⟨A4, d4, hv4, _, _, _⟩ := HV4.out
             rw [List.length_append] at hv4
             subst hv4
             clear ho3 hg3 ho4 hg4 hb3 o0 b0' hrow2))
        go_wp2_with fail
        refine (iAOk_is w4 (l ++ l) _ HV4.out ll _ HU4.out r k true HA.out _ (Below.refl _ _)).mono ?_
        rintro e w5 ⟨rfl, b5⟩
        go_wp2
        go_ret
        exact ⟨by first | rfl | exact retb (by simp) | exact retb (by simp; omega), HB.out.trans ((b4.trans (b5.mono b4.size)).mono HB.out.size)⟩
end Go.Proofs.Yteelbmbedcfkdaa
