import Derived.Test.YtbbgakbobefplaaL4
import Derived.Test.YtbbgakbobefplaaL1M
namespace Go.Proofs.Ytbbgakbobefplaa
open Go.RowKit
/-- Rows that are the caller's own, and whether they were told. -/
def Merged (ll : List (List Int)) (t : Bool) (w : World) (e : Ending) (w' : World) : Prop := ∃ v, e = .returned (.tuple #[v, .bool t]) ∧ Mine w' w.heap.size w'.heap.size v ll ∧ Below w.heap.size w w'
theorem mrow_succ (ll : List (List Int)) (a b : Int) (k : Nat) : mrow ll a b (k + 1) = mrow ll a b k ++ [mcell ll (codeAt ll ll.length a) (codeAt ll ll.length b) k] := by
  unfold mrow; rw [List.range_succ, List.map_append]; rfl
theorem mrow_len (ll : List (List Int)) (a b : Int) (k : Nat) : (mrow ll a b k).length = k := by simp [mrow]
theorem mergeOk_parts {ll : List (List Int)} {a b : Int} : mergeOk ll a b = true ↔ ladOk ll = true ∧ ll.length ≠ 3 ∧ in3 a 0 3 = true ∧ in3 b 0 3 = true ∧ codeAt ll ll.length a ≠ codeAt ll ll.length b := by
  simp only [mergeOk, Bool.and_eq_true, Bool.not_eq_true', decide_eq_false_iff_not, and_assoc]
theorem mergeOk_no {ll : List (List Int)} {a b : Int} (h : ¬ (ladOk ll = true ∧ ll.length ≠ 3 ∧ in3 a 0 3 = true ∧ in3 b 0 3 = true ∧ codeAt ll ll.length a ≠ codeAt ll ll.length b)) : mergeOk ll a b = false := by
  cases hc : mergeOk ll a b
  · rfl
  · exact absurd (mergeOk_parts.1 hc) h
theorem merge_no {ll : List (List Int)} {a b : Int} {w w1 : World} (h : mergeOk ll a b = false) (hb : Below w.heap.size w w1) :
    Merged (lmerge ll a b) (mergeOk ll a b) w (.returned (.tuple #[.slice (some ⟨w1.heap.size, 0, none⟩) 0 0, .bool false])) (w1.alloc (.cells #[] TI)) := by
  refine ⟨_, by rw [h], ?_, hb.alloc hb.size _⟩
  have e : lmerge ll a b = [] := by rw [lmerge, if_neg (by simp [h])]
  rw [e]; exact (mine_new hb.size).up
theorem take_snocL (ll : List (List Int)) (k : Nat) (hk : k < ll.length) : ll.take (k + 1) = ll.take k ++ [ll.getD k []] := by
  rw [List.take_succ_eq_append_getElem hk, List.getD_eq_getElem?_getD, List.getElem?_eq_getElem hk]; rfl
set_option maxHeartbeats 1000000 in
theorem sMerge_any (ll : List (List Int)) (A : Option Addr) (n c : Nat) (hn : n = ll.length) (hl : ll.length ≤ maxLen) (a b : Int) (w : World) (hr : LL w w.heap.size A ll) :
    Calls Try.prog 61 #[.slice A n c, .int .i64 a, .int .i64 b] w (Merged (lmerge ll a b) (mergeOk ll a b) w) := by
  have hl2 : n ≤ 2 ^ 63 - 1 := by rw [hn]; exact hl
  have HN := Lib.hid hn; clear hn
  go_enter Try.func61, Try.ntmps61
  go_wp2_with fail
  refine (sLadder_at ll n HN.out A c _ hr hl).mono ?_
  rintro e w' ⟨rfl, m, rfl⟩
  have HB0 := Lib.hid (show Below w.heap.size w (w.drewN m) from below_draws (Below.refl _ _) m)
  cases hok : ladOk ll
  · have HE := Lib.hid (mergeOk_no (a := a) (b := b) (fun h => by rw [hok] at h; cases h.1)); clear hok
    go_wp2
    go_ret2
    exact merge_no HE.out HB0.out
  have HOK := Lib.hid hok; clear hok
  by_cases h3 : n = 3
  · have HE := Lib.hid (mergeOk_no (ll := ll) (a := a) (b := b) (fun h => h.2.1 (by rw [← HN.out]; exact h3)))
    have h3' : ((n : Int) == 3) = true := by rw [beq_iff_eq]; omega
    clear h3
    go_wp2
    go_ret2
    exact merge_no HE.out HB0.out
  have h3' : ((n : Int) == 3) = false := by rw [beq_eq_false_iff_ne]; omega
  have H3 := Lib.hid h3; clear h3
  go_wp2_with fail
  refine (l6In_any a 0 3 _).mono ?_
  rintro e w' ⟨rfl, rfl⟩
  cases h1 : in3 a 0 3
  · have HE := Lib.hid (mergeOk_no (ll := ll) (a := a) (b := b) (fun h => by rw [h1] at h; cases h.2.2.1)); clear h1
    go_wp2
    go_ret2
    exact merge_no HE.out HB0.out
  have H1 := Lib.hid h1; clear h1
  go_wp2_with fail
  refine (l6In_any b 0 3 _).mono ?_
  rintro e w' ⟨rfl, rfl⟩
  cases h2 : in3 b 0 3
  · have HE := Lib.hid (mergeOk_no (ll := ll) (a := a) (b := b) (fun h => by rw [h2] at h; cases h.2.2.2.1)); clear h2
    go_wp2
    go_ret2
    exact merge_no HE.out HB0.out
  have H2 := Lib.hid h2; clear h2
  obtain ⟨a0, a1⟩ := in3_parts.1 H1.out
  obtain ⟨b0, b1⟩ := in3_parts.1 H2.out
  have hn3 : n ≤ 3 := by rw [HN.out]; exact lad_len HOK.out
  clear h3'
  go_wp2_with fail
  refine (sCode_any ll HOK.out A n c HN.out n a (by omega) (by rw [HN.out]; omega) a0 a1 _ (hr.drewN m)).mono ?_
  rintro e w' ⟨rfl, rfl⟩
  go_wp2_with fail
  refine (sCode_any ll HOK.out A n c HN.out n b (by omega) (by rw [HN.out]; omega) b0 b1 _ (hr.drewN m)).mono ?_
  rintro e w' ⟨rfl, rfl⟩
  obtain ⟨x, hx⟩ : ∃ x, codeAt ll n a = x := ⟨_, rfl⟩
  obtain ⟨y, hy⟩ : ∃ y, codeAt ll n b = y := ⟨_, rfl⟩
  rw [hx, hy]
  rw [HN.out] at hx hy
  have HX := Lib.hid hx
  have HY := Lib.hid hy
  clear hx hy
  by_cases hxy : x = y
  · have HE := Lib.hid (mergeOk_no (ll := ll) (a := a) (b := b) (fun h => h.2.2.2.2 (by rw [HX.out, HY.out]; exact hxy)))
    subst hxy
    go_wp2
    go_ret2
    exact merge_no HE.out HB0.out
  have HE := Lib.hid (mergeOk_parts (ll := ll) (a := a) (b := b) |>.2 ⟨HOK.out, by rw [← HN.out]; exact H3.out, H1.out, H2.out, by rw [HX.out, HY.out]; exact hxy⟩)
  have hxy' : (x == y) = false := by rw [beq_eq_false_iff_ne]; exact hxy
  have HXY := Lib.hid hxy
  clear hxy a0 a1 b0 b1
  have hr1 : LL (w.drewN m) (w.drewN m).heap.size A ll := hr.drewN m
  generalize w.drewN m = w1 at *
  go_wp2
  clear hxy'
  go_loopw [10, 11] (fun v i wr => ∃ k : Nat, k ≤ 4 ∧ i = .int .i64 k ∧ Own1 TN wr w.heap.size v (icells (mrow ll a b k)) ∧ Below w.heap.size w wr) (fun _ i _ => 4 - (intOf i).toNat)
  case atStart => exact ⟨0, by omega, rfl, own1_new HB0.out.size, HB0.out.alloc HB0.out.size _⟩
  case round =>
    obtain ⟨k, hk, rfl, ho, hb⟩ := hrel
    have HO := Lib.hid ho; clear ho
    have HB := Lib.hid hb
    have hz := hb.size; clear hb
    by_cases hlt : k < 4
    · have hki : (k : Int) < 4 := by omega
      go_wp2_with fail
      refine (sCode_any ll HOK.out A n c HN.out n k (by omega) (by rw [HN.out]; omega) (by omega) (by omega) _ ((hr.below HB.out (Nat.le_refl _)).more hz)).mono ?_
      rintro e w' ⟨rfl, rfl⟩
      obtain ⟨z, hzz⟩ : ∃ z, codeAt ll n k = z := ⟨_, rfl⟩
      rw [hzz]
      rw [HN.out] at hzz
      have HZ := Lib.hid hzz; clear hzz
      obtain ⟨r, hr2⟩ : ∃ r, mcell ll x y k = r := ⟨_, rfl⟩
      have HS := Lib.hid (show icells (mrow ll a b (k + 1)) = icells (mrow ll a b k) ++ [.int .i64 r] by rw [mrow_succ, HX.out, HY.out, hr2, icells_app]; rfl)
      have hlen : (icells (mrow ll a b k)).length + 1 ≤ 1000000 := by rw [icells_len, mrow_len]; omega
      have HLEN := Lib.hid hlen; clear hlen
      unfold mcell at hr2
      rw [HZ.out] at hr2
      have hcase : (r = z ∧ (z == x) = false ∧ (z == y) = false) ∨ (r = x ∧ x < y ∧ ((z == x) = true ∨ ((z == x) = false ∧ (z == y) = true))) ∨ (r = y ∧ y < x ∧ ((z == x) = true ∨ ((z == x) = false ∧ (z == y) = true))) := by
        have hne := HXY.out
        by_cases c0 : z = x ∨ z = y
        · rw [if_pos c0] at hr2
          have h2 : (z == x) = true ∨ ((z == x) = false ∧ (z == y) = true) := by
            by_cases c1 : z = x
            · exact .inl (by rw [beq_iff_eq]; exact c1)
            · exact .inr ⟨by rw [beq_eq_false_iff_ne]; exact c1, by rw [beq_iff_eq]; exact c0.resolve_left c1⟩
          rcases (show x < y ∨ y < x by omega) with h | h
          · exact .inr (.inl ⟨by omega, h, h2⟩)
          · exact .inr (.inr ⟨by omega, h, h2⟩)
        · rw [if_neg c0] at hr2
          exact .inl ⟨hr2.symm, by rw [beq_eq_false_iff_ne]; exact fun h => c0 (.inl h), by rw [beq_eq_false_iff_ne]; exact fun h => c0 (.inr h)⟩
      clear hr2
      rcases hcase with ⟨hrz, c1, c2⟩ | ⟨hrz, hm, c1 | ⟨c1, c2⟩⟩ | ⟨hrz, hm, c1 | ⟨c1, c2⟩⟩
      all_goals
        rw [hrz] at HS
        clear hrz
        go_wp2_with (at_builtin
                     refine app1 one_I rfl (.tmp 69) (.tmp 71) rfl w.heap.size _ _ rfl (HO.out.alloc _) (wr.heap.size + 1) (some ⟨wr.heap.size, 0, none⟩) 1 1 [.int .i64 _] rfl rfl (row_lit wr #[.int .i64 _] TN) (by simp; rfl) HLEN.out (by simp; omega) ?_
                     intro v2 w2 ho2 hg2 _
                     have HO2 := Lib.hid ho2
                     have HB2 := Lib.hid (below_own1 (HB.out.alloc hz _) (HO.out.alloc _) hg2)
                     clear ho2 hg2)
        go_roundw
        case rel => exact ⟨k + 1, by omega, by go_num, by rw [HS.out]; exact HO2.out, HB2.out⟩
        case measure => simp [intOf]; omega
    · have hk4 : k = 4 := by omega
      rw [hk4] at HO
      have hki : ¬ (k : Int) < 4 := by omega
      clear hk HB0 hr1 hk4
      go_wp2
      clear hki hlt
      generalize (k : Int) = k4
      obtain ⟨stp, hstp⟩ : ∃ v : Value, v = u10 := ⟨_, rfl⟩
      rw [← hstp] at HO
      rw [← hstp]
      clear hstp
      obtain ⟨As, cs, hs, _, _, _, _⟩ := HO.out.form
      rw [icells_len, mrow_len] at hs
      subst hs
      have HR := Lib.hid hr; clear hr
      obtain ⟨w4, hw4⟩ : ∃ w4, w4 = wr := ⟨_, rfl⟩
      rw [← hw4] at HO HB hz
      rw [← hw4]
      clear hw4
      go_loopw [13, 14] (fun v i wr => ∃ k : Nat, k ≤ n ∧ i = .int .i64 k ∧ Mine wr w4.heap.size wr.heap.size v (ll.take k) ∧ Below w4.heap.size w4 wr) (fun _ i _ => n - (intOf i).toNat)
      case atStart => exact ⟨0, by omega, rfl, (mine_new (Nat.le_refl _)).up, (Below.refl _ _).alloc (Nat.le_refl _) _⟩
      case round =>
        obtain ⟨k, hk, rfl, ho, hb⟩ := hrel
        have HOL := Lib.hid ho; clear ho
        have HB5 := Lib.hid hb
        have hz5 := hb.size; clear hb
        by_cases hlt : k < n
        · have hki : (k : Int) < (n : Int) := by omega
          have hkl : k < ll.length := by rw [← HN.out]; exact hlt
          have HT := Lib.hid (take_snocL ll k hkl)
          obtain ⟨b1, o1, Ai, ci, hA, hb1, c0, g1, g2, r0⟩ := (HR.out.below (HB.out.trans (HB5.out.mono hz)) (Nat.le_refl _)).at_ k hkl
          subst hA
          have HR0 := Lib.hid r0; clear r0
          have hx4 : (ll.getD k []).length ≤ 1000000 := by have := (stepOk_vals (lad_step HOK.out k hkl)).1; omega
          obtain ⟨row, hrow⟩ : ∃ row, ll.getD k [] = row := ⟨_, rfl⟩
          rw [hrow] at HT HR0 c0 hx4
          clear hrow g1 g2
          have HX4 := Lib.hid hx4; clear hx4
          have hb1w : b1 < wr.heap.size := by omega
          have HL4 := Lib.hid (show (ll.take k).length + 1 ≤ 1000000 by have := lad_len HOK.out; simp; omega)
          go_wp2_with (first
            | (at_builtin
               refine app1 one_I rfl (.tmp 81) (.tmp 85) rfl wr.heap.size _ [] rfl (own1_new (Nat.le_refl _)) w.heap.size Ai row.length ci (icells row) (icells_len row).symm rfl ((HR0.out.below ((Below.refl wr.heap.size wr).alloc (Nat.le_refl _) _) (by omega))) (icells_one row) (by rw [icells_len]; simpa using HX4.out) (by simp) ?_
               intro v6 w6 ho6 hg6 _
               rw [List.nil_append] at ho6
               obtain ⟨A6, c6, hv6, _, _, _, _⟩ := ho6.form
               rw [icells_len] at hv6
               subst hv6
               have HB6 := Lib.hid (below_own1 (W := wr) ((Below.refl _ _).alloc (Nat.le_refl _) _) (own1_new (Nat.le_refl _)) hg6)
               have HO6 := Lib.hid ho6
               clear ho6 hg6
               have hz6 := HB6.out.size
               have HRW := Lib.hid ((HO6.out.alloc (.cells #[.slice A6 row.length c6] TI)).less hz5)
               have HFR := Lib.hid (show ∀ k, (Value.slice A6 row.length c6).ownBlock = some k → some k ≠ u13.ownBlock ∧ (wr.heap.size ≤ k ∨ k < w4.heap.size) from fun k e => by
                 have h1 := (HO6.out.ob k e).1
                 exact ⟨fun e2 => by have := (HOL.out.ob k e2.symm).2; omega, .inl h1⟩)
               have HOL2 := Lib.hid (HOL.out.below HB6.out)
               have HB7 := Lib.hid (HB5.out.trans (HB6.out.mono hz5))
               clear HOL HB5 HB6)
            | (at_builtin
               refine appMine rfl (.tmp 80) (.tmp 87) rfl w4.heap.size wr.heap.size u13 (ll.take k) rfl (HOL2.out.alloc _) (w6.heap.size + 1) (some ⟨w6.heap.size, 0, none⟩) 1 (.slice A6 row.length c6) row rfl (row_lit w6 #[.slice A6 row.length c6] TI) w4.heap.size (Nat.le_refl _) HRW.out HFR.out HL4.out (by simp; omega) ?_
               intro v7 w7 ho7 hg7 _
               have HB8 := Lib.hid (below_ownLL (HB7.out.alloc HB7.out.size _) (HOL2.out.own.alloc _) hg7)
               have HO7 := Lib.hid ho7
               clear ho7 hg7))
          go_roundw
          case rel => exact ⟨k + 1, by omega, by go_num, by rw [HT.out]; exact HO7.out, HB8.out⟩
          case measure => simp [intOf]; omega
        · obtain rfl : k = n := by omega
          have ht : ll.take k = ll := List.take_of_length_le (by rw [← HN.out]; omega)
          rw [ht] at HOL
          have hfin : Own1 TN wr w.heap.size (.slice As 4 cs) (icells (mrow ll a b 4)) := HO.out.below HB5.out
          have HFIN := Lib.hid hfin; clear hfin
          have hlen : ll.length + 1 ≤ 1000000 := by have := lad_len HOK.out; omega
          have HLEN := Lib.hid hlen; clear hlen
          have HBW := Lib.hid (HB.out.trans (HB5.out.mono hz))
          have HRW := Lib.hid (HFIN.out.alloc (.cells #[.slice As 4 cs] TI))
          have HFR := Lib.hid (show ∀ k, (Value.slice As 4 cs).ownBlock = some k → some k ≠ u13.ownBlock ∧ (wr.heap.size ≤ k ∨ k < w4.heap.size) from fun k e => by
            have h1 := (HO.out.ob k e).2
            exact ⟨fun e2 => by have := (HOL.out.ob k e2.symm).1; omega, .inr h1⟩)
          go_wp2_with (at_builtin
                       refine appMine rfl (.tmp 89) (.tmp 91) rfl w4.heap.size wr.heap.size u13 ll rfl (HOL.out.alloc _) (wr.heap.size + 1) (some ⟨wr.heap.size, 0, none⟩) 1 (.slice As 4 cs) (mrow ll a b 4) rfl (row_lit wr #[.slice As 4 cs] TI) w.heap.size hz HRW.out HFR.out HLEN.out (by simp; omega) ?_
                       intro v6 w6 ho6 hg6 _
                       have HB6 := Lib.hid (below_ownLL (HBW.out.alloc HBW.out.size _) ((HOL.out.own.less (L' := 0) hz (Nat.zero_le _)).alloc _) hg6)
                       have HO6 := Lib.hid ho6
                       clear ho6 hg6)
          go_ret2
          exact ⟨v6, by rw [HE.out]; rfl, by rw [lmerge, if_pos HE.out]; exact HO6.out, HB6.out⟩
end Go.Proofs.Ytbbgakbobefplaa
