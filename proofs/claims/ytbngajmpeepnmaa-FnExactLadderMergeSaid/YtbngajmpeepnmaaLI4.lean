import Derived.Test.YtbngajmpeepnmaaLI3
namespace Go.Proofs.Ytbngajmpeepnmaa
open Go.RowKit
/-- Rows of one's own are handed back. -/
def GivesM (ll : List (List Int)) (w : World) (e : Ending) (w' : World) : Prop := ∃ v, e = .returned v ∧ Mine w' w.heap.size w'.heap.size v ll ∧ Below w.heap.size w w'
set_option maxHeartbeats 1000000 in
theorem iMerged_any (ll : List (List Int)) (hok : ladOk ll = true) (A : Option Addr) (n c : Nat) (hn : n = ll.length) (a b : Int) (a0 : 0 ≤ a) (a1 : a ≤ 3) (b0 : 0 ≤ b) (b1 : b ≤ 3) (hne : codeAt ll ll.length a ≠ codeAt ll ll.length b)
    (w : World) (hr : LL w w.heap.size A ll) :
    Calls Try.prog 34 #[.slice A n c, .int .i64 a, .int .i64 b] w (GivesM (ll ++ [mrow ll a b 4]) w) := by
  have h3 := lad_len hok
  have hn3 : n ≤ 3 := by omega
  have HOK := Lib.hid hok
  have HN := Lib.hid hn
  have HNE := Lib.hid hne
  clear hn hok hne
  obtain ⟨ht, z, bz, hi, hz1, hb8⟩ := one_CL
  obtain ⟨i0, hi0, hz0, hs0, hs1⟩ := info_parts (P := Try.prog) (e := TI) (z := .slice none 0 0) (size := 1) (bytes := 24) (by kernel_rfl)
  clear ht hi hz1 hb8 bz z
  have HR := Lib.hid hr
  go_enter Try.func34, Try.ntmps34
  go_wp2_with (at_make; go_loud (refine wpList_make_own _ rfl _ _ 42 rfl w.heap.size TI i0 (.slice none 0 0) 1 Try.underlying42 hi0 hz0 hs0 _ _ _ (n + 1) rfl rfl (by omega) (by rw [hs1]; omega) (by simp only [maxLen]; omega) (Nat.le_refl _) ?_); intro w1 ho hg)
  have HB := Lib.hid (show Below w.heap.size w w1 from (Below.refl _ _).grown hg (Nat.le_refl _) (fun k hk => by cases hk))
  have hz := hg.size
  have HO := Lib.hid (show Mine w1 w.heap.size w1.heap.size (.slice (some ⟨w.heap.size, 0, none⟩) 0 (n + 1)) (ll.take 0) from
    ⟨Nat.le_refl _, fun k e => (Own1.ob (T := TI) (cs := []) ho k e).2, [], ho, Rws.nil _ _ _ _⟩)
  clear ho hg hi0 hz0 hs0 hs1 hr
  go_loopw [7, 16] (fun v i wr => ∃ k : Nat, k ≤ n ∧ i = .int .i64 k ∧ Mine wr w.heap.size wr.heap.size v (ll.take k) ∧ Below w.heap.size w wr) (fun _ i _ => n - (intOf i).toNat)
  case atStart => exact ⟨0, Nat.zero_le _, rfl, HO.out, HB.out⟩
  case round =>
    obtain ⟨k, hk, rfl, ho, hb⟩ := hrel
    clear HO HB
    have HOL := Lib.hid ho; clear ho
    have HB5 := Lib.hid hb
    have hz5 := hb.size; clear hb
    by_cases hlt : k < n
    · have hki : (k : Int) < (n : Int) := by omega
      have hkl : k < ll.length := by rw [← HN.out]; exact hlt
      have HT := Lib.hid (take_snocL ll k hkl)
      obtain ⟨b1, o1, Ai, ci, hA, hb1, c0, g1, g2, r0⟩ := (HR.out.below HB5.out (Nat.le_refl _)).at_ k hkl
      subst hA
      have HR0 := Lib.hid (r0.more hz5); clear r0
      have hx4 : (ll.getD k []).length = 4 := (stepOk_vals (lad_step HOK.out k hkl)).1
      obtain ⟨row, hrow⟩ : ∃ row, ll.getD k [] = row := ⟨_, rfl⟩
      rw [hrow] at HT HR0 c0 hx4
      obtain ⟨m, hm⟩ : ∃ m, m = row.length := ⟨_, rfl⟩
      rw [← hm] at c0
      have HM := Lib.hid hm
      clear hrow g1 g2 hm
      have HX4 := Lib.hid hx4; clear hx4
      have HL4 := Lib.hid (show (ll.take k).length + 1 ≤ 1000000 by have := lad_len HOK.out; simp; omega)
      go_wp2_with fail
      refine (iClone_any row (by rw [HX4.out]; omega) (by rw [HX4.out]; omega) Ai m ci HM.out _ HR0.out).mono ?_
      rintro e w6 ⟨A6, c6, rfl, ho6, hb6⟩
      rw [HX4.out] at ho6 ⊢
      have HO6 := Lib.hid ho6
      have HB6 := Lib.hid (HB5.out.trans (hb6.mono hz5))
      have hz6 := hb6.size
      have HOL2 := Lib.hid (HOL.out.below hb6)
      clear ho6 hb6
      have HRW := Lib.hid ((HO6.out.alloc (.cells #[.slice A6 4 c6] TI)).less hz5)
      have HFR := Lib.hid (show ∀ k, (Value.slice A6 4 c6).ownBlock = some k → some k ≠ u7.ownBlock ∧ (wr.heap.size ≤ k ∨ k < w.heap.size) from fun k e => by
        have h1 := (HO6.out.ob k e).1
        exact ⟨fun e2 => by have := (HOL.out.ob k e2.symm).2; omega, .inl h1⟩)
      go_wp2_with (at_builtin
                   refine appMineT one_CL rfl (.tmp 20) (.tmp 23) rfl w.heap.size wr.heap.size u7 (ll.take k) rfl (HOL2.out.alloc _) (w6.heap.size + 1) (some ⟨w6.heap.size, 0, none⟩) 1 (.slice A6 4 c6) row rfl (row_lit w6 #[.slice A6 4 c6] TI) w.heap.size (Nat.le_refl _) HRW.out HFR.out HL4.out (by simp; omega) ?_
                   intro v7 w7 ho7 hg7 _
                   have HB8 := Lib.hid (below_ownLL (HB6.out.alloc HB6.out.size _) (HOL2.out.own.alloc _) hg7)
                   have HO7 := Lib.hid ho7
                   clear ho7 hg7)
      go_roundw
      case rel => exact ⟨k + 1, by omega, by go_num, by rw [HT.out]; exact HO7.out, HB8.out⟩
      case measure => simp [intOf]; omega
    · obtain rfl : k = n := by omega
      have hki : ¬ (k : Int) < (k : Int) := by omega
      have ht : ll.take k = ll := List.take_of_length_le (by rw [← HN.out]; omega)
      rw [ht] at HOL
      clear ht
      have HL4 := Lib.hid (show ll.length + 1 ≤ 1000000 by have := lad_len HOK.out; omega)
      go_wp2_with fail
      refine (iMStep_any ll HOK.out A k c HN.out a b a0 a1 b0 b1 HNE.out _ ((HR.out.below HB5.out (Nat.le_refl _)).more hz5)).mono ?_
      rintro e w6 ⟨A6, c6, rfl, ho6, hb6⟩
      rw [mrow_len] at ho6 ⊢
      have HO6 := Lib.hid ho6
      have HB6 := Lib.hid (HB5.out.trans (hb6.mono hz5))
      have hz6 := hb6.size
      have HOL2 := Lib.hid (HOL.out.below hb6)
      clear ho6 hb6
      have HRW := Lib.hid ((HO6.out.alloc (.cells #[.slice A6 4 c6] TI)).less hz5)
      have HFR := Lib.hid (show ∀ k, (Value.slice A6 4 c6).ownBlock = some k → some k ≠ u7.ownBlock ∧ (wr.heap.size ≤ k ∨ k < w.heap.size) from fun k e => by
        have h1 := (HO6.out.ob k e).1
        exact ⟨fun e2 => by have := (HOL.out.ob k e2.symm).2; omega, .inl h1⟩)
      go_wp2_with (at_builtin
                   refine appMineT one_CL rfl (.tmp 26) (.tmp 31) rfl w.heap.size wr.heap.size u7 ll rfl (HOL2.out.alloc _) (w6.heap.size + 1) (some ⟨w6.heap.size, 0, none⟩) 1 (.slice A6 4 c6) (mrow ll a b 4) rfl (row_lit w6 #[.slice A6 4 c6] TI) w.heap.size (Nat.le_refl _) HRW.out HFR.out HL4.out (by simp; omega) ?_
                   intro v7 w7 ho7 hg7 _
                   have HB8 := Lib.hid (below_ownLL (HB6.out.alloc HB6.out.size _) (HOL2.out.own.alloc _) hg7)
                   have HO7 := Lib.hid ho7
                   clear ho7 hg7)
      go_ret
      exact ⟨v7, rfl, HO7.out, HB8.out⟩
theorem iMerge_any (ll : List (List Int)) (A : Option Addr) (n c : Nat) (hn : n = ll.length) (hl : ll.length ≤ maxLen) (a b : Int) (w : World) (hr : LL w w.heap.size A ll) :
    Calls Try.prog 13 #[.slice A n c, .int .i64 a, .int .i64 b] w (Merged (lmerge ll a b) (mergeOk ll a b) w) := by
  have hl2 : n ≤ 2 ^ 63 - 1 := by rw [hn]; exact hl
  have HN := Lib.hid hn; clear hn
  have HB0 := Lib.hid (Below.refl w.heap.size w)
  go_enter Try.func13, Try.ntmps13
  go_wp2_with fail
  refine (iValid_any ll A n c HN.out hl _ hr).mono ?_
  rintro e w' ⟨rfl, rfl⟩
  cases hok : ladOk ll
  · have HE := Lib.hid (mergeOk_no (a := a) (b := b) (fun h => by rw [hok] at h; cases h.1)); clear hok
    go_wp2
    go_ret2
    exact merge_no HE.out HB0.out
  have HOK := Lib.hid hok; clear hok
  by_cases h3 : n = 3
  · have HE := Lib.hid (mergeOk_no (ll := ll) (a := a) (b := b) (fun h => h.2.1 (by rw [← HN.out]; exact h3)))
    have h3' : ((n : Int) == 3) = true := by rw [beq_iff_eq]; omega
    clear h3
    go_wp2
    go_ret2
    exact merge_no HE.out HB0.out
  have h3' : ((n : Int) == 3) = false := by rw [beq_eq_false_iff_ne]; omega
  have H3 := Lib.hid h3; clear h3
  go_wp2_with fail
  refine (inC4_any a _).mono ?_
  rintro e w' ⟨rfl, rfl⟩
  cases h1 : in3 a 0 3
  · have HE := Lib.hid (mergeOk_no (ll := ll) (a := a) (b := b) (fun h => by rw [h1] at h; cases h.2.2.1)); clear h1
    go_wp2
    go_ret2
    exact merge_no HE.out HB0.out
  have H1 := Lib.hid h1; clear h1
  go_wp2_with fail
  refine (inC4_any b _).mono ?_
  rintro e w' ⟨rfl, rfl⟩
  cases h2 : in3 b 0 3
  · have HE := Lib.hid (mergeOk_no (ll := ll) (a := a) (b := b) (fun h => by rw [h2] at h; cases h.2.2.2.1)); clear h2
    go_wp2
    go_ret2
    exact merge_no HE.out HB0.out
  have H2 := Lib.hid h2; clear h2
  obtain ⟨a0, a1⟩ := in3_parts.1 H1.out
  obtain ⟨b0, b1⟩ := in3_parts.1 H2.out
  have hn3 : n ≤ 3 := by rw [HN.out]; exact lad_len HOK.out
  clear h3'
  have L0 := Lib.hid (show ∀ j : Int, 0 ≤ j → j ≤ 3 → (n : Int) ≠ 0 → j.toNat < (ll.getD (((n : Int) - 1).toNat) []).length from fun j _ h1 => lad_code HOK.out (level := n) (code := j) (by omega) (by rw [HN.out]; omega) h1)
  go_wp2_with fail
  refine (iCode_any ll (lad_len HOK.out) A n c HN.out n a (by omega) (by rw [HN.out]; omega) a0 (L0.out a a0 a1) _ hr).mono ?_
  rintro e w' ⟨rfl, rfl⟩
  obtain ⟨x, hx⟩ : ∃ x, codeAt ll n a = x := ⟨_, rfl⟩
  rw [hx]
  go_wp2_with fail
  refine (iCode_any ll (lad_len HOK.out) A n c HN.out n b (by omega) (by rw [HN.out]; omega) b0 (L0.out b b0 b1) _ hr).mono ?_
  rintro e w' ⟨rfl, rfl⟩
  obtain ⟨y, hy⟩ : ∃ y, codeAt ll n b = y := ⟨_, rfl⟩
  rw [hy]
  rw [HN.out] at hx hy
  have HX := Lib.hid hx
  have HY := Lib.hid hy
  clear hx hy
  by_cases hxy : x = y
  · have HE := Lib.hid (mergeOk_no (ll := ll) (a := a) (b := b) (fun h => h.2.2.2.2 (by rw [HX.out, HY.out]; exact hxy)))
    subst hxy
    go_wp2
    go_ret2
    exact merge_no HE.out HB0.out
  have HE := Lib.hid (mergeOk_parts (ll := ll) (a := a) (b := b) |>.2 ⟨HOK.out, by rw [← HN.out]; exact H3.out, H1.out, H2.out, by rw [HX.out, HY.out]; exact hxy⟩)
  have hxy' : (x == y) = false := by rw [beq_eq_false_iff_ne]; exact hxy
  have HXY := Lib.hid (show codeAt ll ll.length a ≠ codeAt ll ll.length b by rw [HX.out, HY.out]; exact hxy)
  clear hxy
  go_wp2_with fail
  refine (iMerged_any ll HOK.out A n c HN.out a b a0 a1 b0 b1 HXY.out _ hr).mono ?_
  rintro e w' ⟨v, rfl, hm, hb⟩
  have HMM := Lib.hid hm; have HBB := Lib.hid hb
  clear hm hb a0 a1 b0 b1
  go_wp2
  go_ret2
  exact ⟨v, by rw [HE.out]; rfl, by rw [lmerge, if_pos HE.out]; exact HMM.out, HBB.out⟩
end Go.Proofs.Ytbngajmpeepnmaa
