/-  -/
import Derived.Test.YtaaljmmnfgghfaaA3
namespace Go.Proofs.Ytaaljmmnfgghfaa
open Go.RowKit
/-- Rows that are the caller's own, and whether they were told. -/
def Merged (ll : List (List Int)) (t : Bool) (w : World) (e : Ending) (w' : World) : Prop := ∃ v, e = .returned (.tuple #[v, .bool t]) ∧ Mine w' w.heap.size w'.heap.size v ll ∧ Below w.heap.size w w'
theorem mrow_succ (ll : List (List Int)) (a b : Int) (k : Nat) : mrow ll a b (k + 1) = mrow ll a b k ++ [mcell ll (codeAt ll ll.length a) (codeAt ll ll.length b) k] := by
  unfold mrow; rw [List.range_succ, List.map_append]; rfl
theorem mrow_len (ll : List (List Int)) (a b : Int) (k : Nat) : (mrow ll a b k).length = k := by simp [mrow]
theorem mergeOk_parts {ll : List (List Int)} {a b : Int} : mergeOk ll a b = true ↔ ladOk ll = true ∧ ll.length ≠ 3 ∧ in3 a 0 3 = true ∧ in3 b 0 3 = true ∧ codeAt ll ll.length a ≠ codeAt ll ll.length b := by
  simp only [mergeOk, Bool.and_eq_true, Bool.not_eq_true', decide_eq_false_iff_not, and_assoc]
theorem mergeOk_no {ll : List (List Int)} {a b : Int} (h : ¬ (ladOk ll = true ∧ ll.length ≠ 3 ∧ in3 a 0 3 = true ∧ in3 b 0 3 = true ∧ codeAt ll ll.length a ≠ codeAt ll ll.length b)) : mergeOk ll a b = false := by
  cases hc : mergeOk ll a b
  · rfl
  · exact absurd (mergeOk_parts.1 hc) h
theorem merge_no {ll : List (List Int)} {a b : Int} {w w1 : World} (h : mergeOk ll a b = false) (hb : Below w.heap.size w w1) :
    Merged (lmerge ll a b) (mergeOk ll a b) w (.returned (.tuple #[.slice (some ⟨w1.heap.size, 0, none⟩) 0 0, .bool false])) (w1.alloc (.cells #[] TI)) := by
  refine ⟨_, by rw [h], ?_, hb.alloc hb.size _⟩
  have e : lmerge ll a b = [] := by rw [lmerge, if_neg (by simp [h])]
  rw [e]; exact (mine_new hb.size).up
theorem take_snocL (ll : List (List Int)) (k : Nat) (hk : k < ll.length) : ll.take (k + 1) = ll.take k ++ [ll.getD k []] := by
  rw [List.take_succ_eq_append_getElem hk, List.getD_eq_getElem?_getD, List.getElem?_eq_getElem hk]; rfl
set_option maxHeartbeats 1000000 in
theorem sMerge_any (ll : List (List Int)) (A : Option Addr) (n c : Nat) (hn : n = ll.length) (hl : ll.length ≤ maxLen) (a b : Int) (w : World) (hr : LL w w.heap.size A ll) :
    Calls Try.prog 63 #[.slice A n c, .int .i64 a, .int .i64 b] w (Merged (lmerge ll a b) (mergeOk ll a b) w) := by
  have hl2 : n ≤ 2 ^ 63 - 1 := by rw [hn]; exact hl
  have HN := Lib.hid hn; clear hn
  go_enter Try.func63, Try.ntmps63
  go_wp2_with fail
  refine (sLadder_at ll n HN.out A c _ hr hl).mono ?_
  rintro e w' ⟨rfl, m, rfl⟩
  have HB0 := Lib.hid (show Below w.heap.size w (w.drewN m) from below_draws (Below.refl _ _) m)
  cases hok : ladOk ll
  · have HE := Lib.hid (mergeOk_no (a := a) (b := b) (fun h => by rw [hok] at h; cases h.1)); clear hok
    go_wp2
    go_ret2
    exact merge_no HE.out HB0.out
  have HOK := Lib.hid hok; clear hok
  by_cases h3 : n = 3
  · have HE := Lib.hid (mergeOk_no (ll := ll) (a := a) (b := b) (fun h => h.2.1 (by rw [← HN.out]; exact h3)))
    have h3' : ((n : Int) == 3) = true := by rw [beq_iff_eq]; omega
    clear h3
    go_wp2
    go_ret2
    exact merge_no HE.out HB0.out
  have h3' : ((n : Int) == 3) = false := by rw [beq_eq_false_iff_ne]; omega
  have H3 := Lib.hid h3; clear h3
  go_wp2_with fail
  refine (l6In_any a 0 3 _).mono ?_
  rintro e w' ⟨rfl, rfl⟩
  cases h1 : in3 a 0 3
  · have HE := Lib.hid (mergeOk_no (ll := ll) (a := a) (b := b) (fun h => by rw [h1] at h; cases h.2.2.1)); clear h1
    go_wp2
    go_ret2
    exact merge_no HE.out HB0.out
  have H1 := Lib.hid h1; clear h1
  go_wp2_with fail
  refine (l6In_any b 0 3 _).mono ?_
  rintro e w' ⟨rfl, rfl⟩
  cases h2 : in3 b 0 3
  · have HE := Lib.hid (mergeOk_no (ll := ll) (a := a) (b := b) (fun h => by rw [h2] at h; cases h.2.2.2.1)); clear h2
    go_wp2
    go_ret2
    exact merge_no HE.out HB0.out
  have H2 := Lib.hid h2; clear h2
  obtain ⟨a0, a1⟩ := in3_parts.1 H1.out
  obtain ⟨b0, b1⟩ := in3_parts.1 H2.out
  have hn3 : n ≤ 3 := by rw [HN.out]; exact lad_len HOK.out
  clear h3'
  go_wp2_with fail
  refine (sCode_any ll HOK.out A n c HN.out n a (by omega) (by rw [HN.out]; omega) a0 a1 _ (hr.drewN m)).mono ?_
  rintro e w' ⟨rfl, rfl⟩
  go_wp2_with fail
  refine (sCode_any ll HOK.out A n c HN.out n b (by omega) (by rw [HN.out]; omega) b0 b1 _ (hr.drewN m)).mono ?_
  rintro e w' ⟨rfl, rfl⟩
  obtain ⟨x, hx⟩ : ∃ x, codeAt ll n a = x := ⟨_, rfl⟩
  obtain ⟨y, hy⟩ : ∃ y, codeAt ll n b = y := ⟨_, rfl⟩
  rw [hx, hy]
  rw [HN.out] at hx hy
  have HX := Lib.hid hx
  have HY := Lib.hid hy
  clear hx hy
  by_cases hxy : x = y
  · have HE := Lib.hid (mergeOk_no (ll := ll) (a := a) (b := b) (fun h => h.2.2.2.2 (by rw [HX.out, HY.out]; exact hxy)))
    subst hxy
    go_wp2
    go_ret2
    exact merge_no HE.out HB0.out
  have HE := Lib.hid (mergeOk_parts (ll := ll) (a := a) (b := b) |>.2 ⟨HOK.out, by rw [← HN.out]; exact H3.out, H1.out, H2.out, by rw [HX.out, HY.out]; exact hxy⟩)
  have hxy' : (x == y) = false := by rw [beq_eq_false_iff_ne]; exact hxy
  have HXY := Lib.hid hxy
  clear hxy a0 a1 b0 b1
  have hr1 : LL (w.drewN m) (w.drewN m).heap.size A ll := hr.drewN m
  generalize w.drewN m = w1 at *
  go_wp2
  clear hxy'
  go_loopw [10, 11] (fun v i wr => ∃ k : Nat, k ≤ 4 ∧ i = .int .i64 k ∧ Own1 TN wr w.heap.size v (icells (mrow ll a b k)) ∧ Below w.heap.size w wr) (fun _ i _ => 4 - (intOf i).toNat)
  case atStart => exact ⟨0, by omega, rfl, own1_new HB0.out.size, HB0.out.alloc HB0.out.size _⟩
  case round =>
    obtain ⟨k, hk, rfl, ho, hb⟩ := hrel
    have HO := Lib.hid ho; clear ho
    have HB := Lib.hid hb
    have hz := hb.size; clear hb
    by_cases hlt : k < 4
    · have hki : (k : Int) < 4 := by omega
      go_wp2_with fail
      refine (sCode_any ll HOK.out A n c HN.out n k (by omega) (by rw [HN.out]; omega) (by omega) (by omega) _ ((hr.below HB.out (Nat.le_refl _)).more hz)).mono ?_
      rintro e w' ⟨rfl, rfl⟩
      obtain ⟨z, hzz⟩ : ∃ z, codeAt ll n k = z := ⟨_, rfl⟩
      rw [hzz]
      rw [HN.out] at hzz
      have HZ := Lib.hid hzz; clear hzz
      obtain ⟨r, hr2⟩ : ∃ r, mcell ll x y k = r := ⟨_, rfl⟩
      have HS := Lib.hid (show icells (mrow ll a b (k + 1)) = icells (mrow ll a b k) ++ [.int .i64 r] by rw [mrow_succ, HX.out, HY.out, hr2, icells_app]; rfl)
      have hlen : (icells (mrow ll a b k)).length + 1 ≤ 1000000 := by rw [icells_len, mrow_len]; omega
      have HLEN := Lib.hid hlen; clear hlen
      unfold mcell at hr2
      rw [HZ.out] at hr2
      have hcase : (r = z ∧ (z == x) = false ∧ (z == y) = false) ∨ (r = x ∧ x < y ∧ ((z == x) = true ∨ ((z == x) = false ∧ (z == y) = true))) ∨ (r = y ∧ y < x ∧ ((z == x) = true ∨ ((z == x) = false ∧ (z == y) = true))) := by
        have hne := HXY.out
        by_cases c0 : z = x ∨ z = y
        · rw [if_pos c0] at hr2
          have h2 : (z == x) = true ∨ ((z == x) = false ∧ (z == y) = true) := by
            by_cases c1 : z = x
            · exact .inl (by rw [beq_iff_eq]; exact c1)
            · exact .inr ⟨by rw [beq_eq_false_iff_ne]; exact c1, by rw [beq_iff_eq]; exact c0.resolve_left c1⟩
          rcases (show x < y ∨ y < x by omega) with h | h
          · exact .inr (.inl ⟨by omega, h, h2⟩)
          · exact .inr (.inr ⟨by omega, h, h2⟩)
        · rw [if_neg c0] at hr2
          exact .inl ⟨hr2.symm, by rw [beq_eq_false_iff_ne]; exact fun h => c0 (.inl h), by rw [beq_eq_false_iff_ne]; exact fun h => c0 (.inr h)⟩
      clear hr2
      rcases hcase with ⟨hrz, c1, c2⟩ | ⟨hrz, hm, c1 | ⟨c1, c2⟩⟩ | ⟨hrz, hm, c1 | ⟨c1, c2⟩⟩
      all_goals
        rw [hrz] at HS
        clear hrz
        go_wp2_with (at_builtin
                     refine app1 one_I rfl (.tmp 69) (.tmp 71) rfl w.heap.size _ _ rfl (HO.out.alloc _) (wr.heap.size + 1) (some ⟨wr.heap.size, 0, none⟩) 1 1 [.int .i64 _] rfl rfl (row_lit wr #[.int .i64 _] TN) (by simp; rfl) HLEN.out (by simp; omega) ?_
                     intro v2 w2 ho2 hg2 _
                     have HO2 := Lib.hid ho2
                     have HB2 := Lib.hid (below_own1 (HB.out.alloc hz _) (HO.out.alloc _) hg2)
                     clear ho2 hg2)
        go_roundw
        case rel => exact ⟨k + 1, by omega, by go_num, by rw [HS.out]; exact HO2.out, HB2.out⟩
        case measure => simp [intOf]; omega
    · have hk4 : k = 4 := by omega
      rw [hk4] at HO
      have hki : ¬ (k : Int) < 4 := by omega
      clear hk HB0 hr1 hk4
      go_wp2
      clear hki hlt
      generalize (k : Int) = k4
      obtain ⟨stp, hstp⟩ : ∃ v : Value, v = u10 := ⟨_, rfl⟩
      rw [← hstp] at HO
      rw [← hstp]
      clear hstp
      obtain ⟨As, cs, hs, _, _, _, _⟩ := HO.out.form
      rw [icells_len, mrow_len] at hs
      subst hs
      have HR := Lib.hid hr; clear hr
      obtain ⟨w4, hw4⟩ : ∃ w4, w4 = wr := ⟨_, rfl⟩
      rw [← hw4] at HO HB hz
      rw [← hw4]
      clear hw4
      go_loopw [13, 14] (fun v i wr => ∃ k : Nat, k ≤ n ∧ i = .int .i64 k ∧ Mine wr w4.heap.size wr.heap.size v (ll.take k) ∧ Below w4.heap.size w4 wr) (fun _ i _ => n - (intOf i).toNat)
      case atStart => exact ⟨0, by omega, rfl, (mine_new (Nat.le_refl _)).up, (Below.refl _ _).alloc (Nat.le_refl _) _⟩
      case round =>
        obtain ⟨k, hk, rfl, ho, hb⟩ := hrel
        have HOL := Lib.hid ho; clear ho
        have HB5 := Lib.hid hb
        have hz5 := hb.size; clear hb
        by_cases hlt : k < n
        · have hki : (k : Int) < (n : Int) := by omega
          have hkl : k < ll.length := by rw [← HN.out]; exact hlt
          have HT := Lib.hid (take_snocL ll k hkl)
          obtain ⟨b1, o1, Ai, ci, hA, hb1, c0, g1, g2, r0⟩ := (HR.out.below (HB.out.trans (HB5.out.mono hz)) (Nat.le_refl _)).at_ k hkl
          subst hA
          have HR0 := Lib.hid r0; clear r0
          have hx4 : (ll.getD k []).length ≤ 1000000 := by have := (stepOk_vals (lad_step HOK.out k hkl)).1; omega
          obtain ⟨row, hrow⟩ : ∃ row, ll.getD k [] = row := ⟨_, rfl⟩
          rw [hrow] at HT HR0 c0 hx4
          clear hrow g1 g2
          have HX4 := Lib.hid hx4; clear hx4
          have hb1w : b1 < wr.heap.size := by omega
          have HL4 := Lib.hid (show (ll.take k).length + 1 ≤ 1000000 by have := lad_len HOK.out; simp; omega)
          go_wp2_with (first
            | (at_builtin
               refine app1 one_I rfl (.tmp 81) (.tmp 85) rfl wr.heap.size _ [] rfl (own1_new (Nat.le_refl _)) w.heap.size Ai row.length ci (icells row) (icells_len row).symm rfl ((HR0.out.below ((Below.refl wr.heap.size wr).alloc (Nat.le_refl _) _) (by omega))) (icells_one row) (by rw [icells_len]; simpa using HX4.out) (by simp) ?_
               intro v6 w6 ho6 hg6 _
               rw [List.nil_append] at ho6
               obtain ⟨A6, c6, hv6, _, _, _, _⟩ := ho6.form
               rw [icells_len] at hv6
               subst hv6
               have HB6 := Lib.hid (below_own1 (W := wr) ((Below.refl _ _).alloc (Nat.le_refl _) _) (own1_new (Nat.le_refl _)) hg6)
               have HO6 := Lib.hid ho6
               clear ho6 hg6
               have hz6 := HB6.out.size
               have HRW := Lib.hid ((HO6.out.alloc (.cells #[.slice A6 row.length c6] TI)).less hz5)
               have HFR := Lib.hid (show ∀ k, (Value.slice A6 row.length c6).ownBlock = some k → some k ≠ u13.ownBlock ∧ (wr.heap.size ≤ k ∨ k < w4.heap.size) from fun k e => by
                 have h1 := (HO6.out.ob k e).1
                 exact ⟨fun e2 => by have := (HOL.out.ob k e2.symm).2; omega, .inl h1⟩)
               have HOL2 := Lib.hid (HOL.out.below HB6.out)
               have HB7 := Lib.hid (HB5.out.trans (HB6.out.mono hz5))
               clear HOL HB5 HB6)
            | (at_builtin
               refine appMine rfl (.tmp 80) (.tmp 87) rfl w4.heap.size wr.heap.size u13 (ll.take k) rfl (HOL2.out.alloc _) (w6.heap.size + 1) (some ⟨w6.heap.size, 0, none⟩) 1 (.slice A6 row.length c6) row rfl (row_lit w6 #[.slice A6 row.length c6] TI) w4.heap.size (Nat.le_refl _) HRW.out HFR.out HL4.out (by simp; omega) ?_
               intro v7 w7 ho7 hg7 _
               have HB8 := Lib.hid (below_ownLL (HB7.out.alloc HB7.out.size _) (HOL2.out.own.alloc _) hg7)
               have HO7 := Lib.hid ho7
               clear ho7 hg7))
          go_roundw
          case rel => exact ⟨k + 1, by omega, by go_num, by rw [HT.out]; exact HO7.out, HB8.out⟩
          case measure => simp [intOf]; omega
        · obtain rfl : k = n := by omega
          have ht : ll.take k = ll := List.take_of_length_le (by rw [← HN.out]; omega)
          rw [ht] at HOL
          have hfin : Own1 TN wr w.heap.size (.slice As 4 cs) (icells (mrow ll a b 4)) := HO.out.below HB5.out
          have HFIN := Lib.hid hfin; clear hfin
          have hlen : ll.length + 1 ≤ 1000000 := by have := lad_len HOK.out; omega
          have HLEN := Lib.hid hlen; clear hlen
          have HBW := Lib.hid (HB.out.trans (HB5.out.mono hz))
          have HRW := Lib.hid (HFIN.out.alloc (.cells #[.slice As 4 cs] TI))
          have HFR := Lib.hid (show ∀ k, (Value.slice As 4 cs).ownBlock = some k → some k ≠ u13.ownBlock ∧ (wr.heap.size ≤ k ∨ k < w4.heap.size) from fun k e => by
            have h1 := (HO.out.ob k e).2
            exact ⟨fun e2 => by have := (HOL.out.ob k e2.symm).1; omega, .inr h1⟩)
          go_wp2_with (at_builtin
                       refine appMine rfl (.tmp 89) (.tmp 91) rfl w4.heap.size wr.heap.size u13 ll rfl (HOL.out.alloc _) (wr.heap.size + 1) (some ⟨wr.heap.size, 0, none⟩) 1 (.slice As 4 cs) (mrow ll a b 4) rfl (row_lit wr #[.slice As 4 cs] TI) w.heap.size hz HRW.out HFR.out HLEN.out (by simp; omega) ?_
                       intro v6 w6 ho6 hg6 _
                       have HB6 := Lib.hid (below_ownLL (HBW.out.alloc HBW.out.size _) ((HOL.out.own.less (L' := 0) hz (Nat.zero_le _)).alloc _) hg6)
                       have HO6 := Lib.hid ho6
                       clear ho6 hg6)
          go_ret2
          exact ⟨v6, by rw [HE.out]; rfl, by rw [lmerge, if_pos HE.out]; exact HO6.out, HB6.out⟩
end Go.Proofs.Ytaaljmmnfgghfaa
namespace Go.Proofs.Ytaaljmmnfgghfaa
open Go.RowKit
end Go.Proofs.Ytaaljmmnfgghfaa
namespace Go.Proofs.Ytaaljmmnfgghfaa
open Go.RowKit
theorem head_lit (w : World) (x : List Int) (cs : Array Value) (hcs : cs.toList = icells x) (hm : x.length ≤ 1000) (L : Nat) (no : Option Nat) (hL : L ≤ w.heap.size) (hno : ∀ k, no = some k → k < w.heap.size) :
    Heads (w.alloc (.cells cs TN)) L no [.slice (some ⟨w.heap.size, 0, none⟩) x.length x.length] [x] := by
  refine ⟨rfl, fun i hi => ?_⟩
  obtain rfl : i = 0 := by simp at hi; exact hi
  refine ⟨some ⟨w.heap.size, 0, none⟩, x.length, rfl, Nat.le_refl _, by simp only [maxLen]; omega, .inr ⟨w.heap.size, 0, rfl, hL, by simp, fun e => by have := hno _ e.symm; omega, fun j u hu => ?_⟩⟩
  have h : (icells x)[j]? = some u := hu
  rw [Nat.zero_add, cell_of_row _ _ j cs TN (0, 0) (heap_alloc_new w _)]
  rw [← hcs] at h; simpa using h
theorem Heads.alloc {w : World} {L : Nat} {no : Option Nat} {hs : List Value} {ll : List (List Int)} (h : Heads w L no hs ll) (o : Obj) : Heads (w.alloc o) L no hs ll :=
  h.keep (by simp) fun b _ hlt hne => ⟨Below.heap_alloc w o b hlt, hne⟩
theorem row_lit' (w : World) (o : Obj) (cs : Array Value) (T : TypeId) : Row ((w.alloc o).alloc (.cells cs T)) (w.heap.size + 2) (some ⟨w.heap.size + 1, 0, none⟩) cs.toList := by
  have h := row_lit (w.alloc o) cs T
  have e : (w.alloc o).heap.size = w.heap.size + 1 := by simp
  rw [e] at h; exact h
def LadDrawn (R q : Nat) (w : World) (e : Ending) (w' : World) : Prop :=
  ∃ v ll, e = .returned v ∧ OwnLL w' w.heap.size w.heap.size v ll ∧ ll.length ≤ 4 ∧ RdN w' R (q + 8) ∧ w.grownBy w' (some R)
theorem ladEnd {w w2 w3 : World} {R q : Nat} {v v3 : Value} {ll ll3 : List (List Int)} (ho : OwnLL w2 w.heap.size w.heap.size v ll) (hr : RdN w2 R (q + 8)) (hg : w.grownBy w2 (some R)) (o1 o2 : Obj)
    (ho3 : OwnLL w3 w.heap.size w.heap.size v3 ll3) (hg3 : ((w2.alloc o1).alloc o2).grownBy w3 v.ownBlock) (hl : ll3.length ≤ 4) (hR : R < w.heap.size) : LadDrawn R q w (.returned v3) w3 :=
  ⟨v3, ll3, rfl, ho3, hl, ((hr.alloc o1).alloc o2).grown hg3 (fun k hk => by have := (ho.ob k hk).1; omega), grown_new (grown_alloc (grown_alloc hg o1) o2) hg3 (fun g hg => (ho.ob g hg).1)⟩
set_option maxHeartbeats 1000000 in
theorem ladder_any (R q : Nat) (hq : q + 8 < 1000000) (w : World) (hr : RdN w R q) :
    Calls Try.prog 54 #[.pointer (some ⟨R, 0, none⟩)] w (LadDrawn R q w) := by
  have hR := hr.lt
  go_enter Try.func54, Try.ntmps54
  go_wp2_with fail
  refine (pick_any 4 (by omega) (by omega) R q (by omega) _ (hr.alloc _)).mono ?_
  rintro e w1 ⟨n, rfl, n0, n1, hr1, hg1⟩
  obtain ⟨n, rfl⟩ := Int.eq_ofNat_of_zero_le n0
  have HG := Lib.hid (grown_trans (World.grownBy_alloc w _ _) hg1)
  have HO := Lib.hid (show OwnLL w1 w.heap.size w.heap.size (.slice (some ⟨w.heap.size, 0, none⟩) 0 0) [] from (ownLL_new (Nat.le_refl _)).kept hg1 (fun k hk => by injection hk; omega) (fun k hk => by injection hk; omega))
  have HR := Lib.hid hr1
  clear hr1 hg1 hr
  go_wp2_with fail
  go_loopw [3, 5] (fun v i wr => ∃ k : Nat, ∃ ll, k ≤ n ∧ i = .int .i64 k ∧ OwnLL wr w.heap.size w.heap.size v ll ∧ ll.length ≤ k ∧ RdN wr R (q + 1 + 2 * k) ∧ w.grownBy wr (some R)) (fun _ i _ => n - (intOf i).toNat)
  case atStart => exact ⟨0, [], Nat.zero_le _, rfl, HO.out, by simp, HR.out, HG.out⟩
  case round =>
    obtain ⟨k, ll, hk, rfl, ho, hlk, hrd, hgr⟩ := hrel
    clear HO HR HG
    have HG := Lib.hid hgr; clear hgr
    have hk3 : k ≤ 3 := by omega
    by_cases hlt : k < n
    · obtain ⟨A, c, rfl, hc1, hc2, _⟩ := ho.form
      have HO := Lib.hid ho; clear ho
      go_wp2_with fail
      refine (pick_any 4 (by omega) (by omega) R (q + 1 + 2 * k) (by omega) _ hrd).mono ?_
      rintro e w2 ⟨x, rfl, x0, x1, hr2, hg2⟩
      go_wp2_with fail
      refine (pick_any 4 (by omega) (by omega) R (q + 1 + 2 * k + 1) (by omega) _ hr2).mono ?_
      rintro e w3 ⟨y, rfl, y0, y1, hr3, hg3⟩
      have hll : ll.length ≤ maxLen := by simp only [maxLen]; omega
      have HO3 := Lib.hid ((HO.out.kept hg2 (fun k hk => by injection hk; omega) (fun k hk => by injection hk; omega)).kept hg3 (fun k hk => by injection hk; omega) (fun k hk => by injection hk; omega))
      have HG3 := Lib.hid (grown_trans HG.out (grown_trans hg2 hg3))
      have hz3 := HG3.out.size
      clear HO HG hg2 hg3 hr2 hrd
      obtain ⟨A', c', hv', _, _, hl3⟩ := HO3.out.form
      injection hv' with e1 e2 e3
      subst e1 e3
      go_wp2_with fail
      refine (sMerge_any ll A ll.length c rfl hll x y _ hl3).mono ?_
      rintro e w4 ⟨v4, rfl, ho4, hb4⟩
      have HG4 := Lib.hid (grown_below HG3.out hb4)
      have hr4 := (hr3.keep (hb4.mono hr3.lt)).more (q' := q + 1 + 2 * (k + 1)) (by omega)
      clear hr3 hl3 e2
      cases hm : mergeOk ll x y
      · have HO4 := Lib.hid (HO3.out.below hb4)
        clear ho4 hb4 HO3 HG3 hm
        go_wp2
        go_roundw
        case rel => exact ⟨k + 1, ll, by omega, by go_num, HO4.out, by omega, hr4, HG4.out⟩
        case measure => simp [intOf]; omega
      · have HO4 := Lib.hid (ho4.own.less hz3 hz3)
        have hl4 : (lmerge ll x y).length ≤ k + 1 := by rw [lmerge, if_pos hm]; simp; omega
        clear ho4 hb4 HO3 HG3 hm
        generalize lmerge ll x y = l4 at *
        go_wp2
        go_roundw
        case rel => exact ⟨k + 1, l4, by omega, by go_num, HO4.out, hl4, hr4, HG4.out⟩
        case measure => simp [intOf]; omega
    · have HO := Lib.hid ho; clear ho
      go_wp2_with fail
      refine (pick_any 40 (by omega) (by omega) R (q + 1 + 2 * k) (by omega) _ hrd).mono ?_
      rintro e w2 ⟨x, rfl, x0, x1, hr2, hg2⟩
      have HO2 := Lib.hid (HO.out.kept hg2 (fun k hk => by injection hk; omega) (fun k hk => by injection hk; omega))
      have HG2 := Lib.hid (grown_trans HG.out hg2)
      have hz2 := HG2.out.size
      have hr2 := hr2.more (q' := q + 8) (by omega)
      clear HO HG hg2 hrd
      obtain ⟨v, hv⟩ : ∃ v : Value, v = u3 := ⟨_, rfl⟩
      rw [← hv] at HO2
      rw [← hv]
      clear hv
      rcases (show x = 0 ∨ x = 1 ∨ x = 2 ∨ 2 < x by omega) with rfl | rfl | rfl | hx
      · have HD := Lib.hid (Heads.alloc (head_lit w2 [0, 0, 1, 3] #[.int .i64 0, .int .i64 0, .int .i64 1, .int .i64 3] rfl (by simp) w.heap.size v.ownBlock hz2 (fun g hg => (HO2.out.ob g hg).2)) (.cells #[.slice (some ⟨w2.heap.size, 0, none⟩) 4 4] TI))
        go_wp2_with (at_builtin
                     go_loud (refine appLL rfl (.tmp 31) (.tmp 33) rfl w.heap.size w.heap.size _ ll rfl ((HO2.out.alloc _).alloc _) (w2.heap.size + 2) (some ⟨w2.heap.size + 1, 0, none⟩) 1 1 [.slice (some ⟨w2.heap.size, 0, none⟩) 4 4] [[0, 0, 1, 3]] rfl rfl (row_lit' w2 _ _ _) HD.out (by simp; omega) (by simp; omega) ?_)
                     intro v3 w3 ho3 hg3)
        go_ret
        exact ladEnd HO2.out hr2 HG2.out _ _ ho3 hg3 (by simp; omega) (by omega)
      · have HD := Lib.hid (Heads.alloc (head_lit w2 [0, 1, 2] #[.int .i64 0, .int .i64 1, .int .i64 2] rfl (by simp) w.heap.size v.ownBlock hz2 (fun g hg => (HO2.out.ob g hg).2)) (.cells #[.slice (some ⟨w2.heap.size, 0, none⟩) 3 3] TI))
        go_wp2_with (at_builtin
                     go_loud (refine appLL rfl (.tmp 37) (.tmp 39) rfl w.heap.size w.heap.size _ ll rfl ((HO2.out.alloc _).alloc _) (w2.heap.size + 2) (some ⟨w2.heap.size + 1, 0, none⟩) 1 1 [.slice (some ⟨w2.heap.size, 0, none⟩) 3 3] [[0, 1, 2]] rfl rfl (row_lit' w2 _ _ _) HD.out (by simp; omega) (by simp; omega) ?_)
                     intro v3 w3 ho3 hg3)
        go_ret
        exact ladEnd HO2.out hr2 HG2.out _ _ ho3 hg3 (by simp; omega) (by omega)
      · have HD := Lib.hid (Heads.alloc (head_lit w2 [0, 1, 2, 3] #[.int .i64 0, .int .i64 1, .int .i64 2, .int .i64 3] rfl (by simp) w.heap.size v.ownBlock hz2 (fun g hg => (HO2.out.ob g hg).2)) (.cells #[.slice (some ⟨w2.heap.size, 0, none⟩) 4 4] TI))
        go_wp2_with (at_builtin
                     go_loud (refine appLL rfl (.tmp 43) (.tmp 45) rfl w.heap.size w.heap.size _ ll rfl ((HO2.out.alloc _).alloc _) (w2.heap.size + 2) (some ⟨w2.heap.size + 1, 0, none⟩) 1 1 [.slice (some ⟨w2.heap.size, 0, none⟩) 4 4] [[0, 1, 2, 3]] rfl rfl (row_lit' w2 _ _ _) HD.out (by simp; omega) (by simp; omega) ?_)
                     intro v3 w3 ho3 hg3)
        go_ret
        exact ladEnd HO2.out hr2 HG2.out _ _ ho3 hg3 (by simp; omega) (by omega)
      · go_wp2
        go_ret
        exact ⟨v, ll, rfl, HO2.out, by omega, hr2, HG2.out⟩
end Go.Proofs.Ytaaljmmnfgghfaa
namespace Go.Proofs.Ytaaljmmnfgghfaa
open Go.RowKit
theorem head_at (w : World) (g : Nat) (x : List Int) (cs : Array Value) (h : w.heap[g]? = some (.cells cs TN (0, 0))) (hcs : cs.toList = icells x) (hm : x.length ≤ 1000) (L : Nat) (no : Option Nat) (hL : L ≤ g) (hno : ∀ k, no = some k → k ≠ g) :
    Heads w L no [.slice (some ⟨g, 0, none⟩) x.length x.length] [x] := by
  refine ⟨rfl, fun i hi => ?_⟩
  obtain rfl : i = 0 := by simp at hi; exact hi
  refine ⟨some ⟨g, 0, none⟩, x.length, rfl, Nat.le_refl _, by simp only [maxLen]; omega, .inr ⟨g, 0, rfl, hL, (Array.getElem?_eq_some_iff.1 h).1, fun e => hno _ e.symm rfl, fun j u hu => ?_⟩⟩
  have h2 : (icells x)[j]? = some u := hu
  rw [Nat.zero_add, cell_of_row _ _ j cs TN (0, 0) h]
  rw [← hcs] at h2; simpa using h2
theorem alloc_at (w : World) (o : Obj) (k : Nat) (h : k = w.heap.size) : (w.alloc o).heap[k]? = some o := by subst h; exact heap_alloc_new w o
theorem keep1 {w : World} {o : Obj} {k : Nat} {x : Obj} (h : w.heap[k]? = some x) : (w.alloc o).heap[k]? = some x := by
  rw [Below.heap_alloc w o k (Array.getElem?_eq_some_iff.1 h).1]; exact h
theorem five_grown {w w' : World} {a b c d e : Obj} {R : Nat} (hg : (((((w.alloc a).alloc b).alloc c).alloc d).alloc e).grownBy w' (some R)) (hR : R < w.heap.size) :
    w'.heap[w.heap.size]? = some a ∧ w'.heap[w.heap.size + 1]? = some b ∧ w'.heap[w.heap.size + 2]? = some c ∧ w'.heap[w.heap.size + 3]? = some d ∧ w'.heap[w.heap.size + 4]? = some e := by
  have h0 := alloc_at w a _ rfl
  have h1 := alloc_at (w.alloc a) b (w.heap.size + 1) (by simp)
  have h2 := alloc_at ((w.alloc a).alloc b) c (w.heap.size + 2) (by simp)
  have h3 := alloc_at (((w.alloc a).alloc b).alloc c) d (w.heap.size + 3) (by simp)
  have h4 := alloc_at ((((w.alloc a).alloc b).alloc c).alloc d) e (w.heap.size + 4) (by simp)
  have f : ∀ k, w.heap.size ≤ k → k < w.heap.size + 5 → w'.heap[k]? = (((((w.alloc a).alloc b).alloc c).alloc d).alloc e).heap[k]? := fun k hk hk2 => hg.block k (by simp; omega) (fun h => by injection h; omega)
  exact ⟨(f _ (by omega) (by omega)).trans (keep1 (keep1 (keep1 (keep1 h0)))), (f _ (by omega) (by omega)).trans (keep1 (keep1 (keep1 h1))), (f _ (by omega) (by omega)).trans (keep1 (keep1 h2)), (f _ (by omega) (by omega)).trans (keep1 h3), (f _ (by omega) (by omega)).trans h4⟩
theorem four_at (w : World) (a b c d : Obj) : let W := (((w.alloc a).alloc b).alloc c).alloc d
    W.heap[w.heap.size]? = some a ∧ W.heap[w.heap.size + 1]? = some b ∧ W.heap[w.heap.size + 2]? = some c ∧ W.heap[w.heap.size + 3]? = some d := by
  have h0 := alloc_at w a _ rfl
  have h1 := alloc_at (w.alloc a) b (w.heap.size + 1) (by simp)
  have h2 := alloc_at ((w.alloc a).alloc b) c (w.heap.size + 2) (by simp)
  have h3 := alloc_at (((w.alloc a).alloc b).alloc c) d (w.heap.size + 3) (by simp)
  exact ⟨keep1 (keep1 (keep1 h0)), keep1 (keep1 h1), keep1 h2, h3⟩
theorem row_at {w : World} {g : Nat} {cs : Array Value} {T : TypeId} (h : w.heap[g]? = some (.cells cs T (0, 0))) : Row w (g + 1) (some ⟨g, 0, none⟩) cs.toList :=
  .inr ⟨_, 0, rfl, Nat.lt_succ_self _, fun j u hu => by rw [Nat.zero_add, cell_of_row _ _ j cs T (0, 0) h]; simpa using hu⟩
/-- A ladder, or none, somewhere in new memory. -/
def DrawnV (w : World) (e : Ending) (w' : World) : Prop :=
  ∃ ll A c, e = .returned (.slice A ll.length c) ∧ LL w' w'.heap.size A ll ∧ ll.length ≤ 7 ∧ ll.length ≤ c ∧ c ≤ maxLen ∧ Below w.heap.size w w'
theorem drawV_end {w w1 w2 : World} {v : Value} {ll : List (List Int)} {L : Nat} (hb : Below w.heap.size w w1) (hg : w1.grownBy w2 (some w.heap.size)) (hR : w.heap.size < w1.heap.size) (ho : OwnLL w2 w1.heap.size L v ll) (hl : ll.length ≤ 7) : DrawnV w (.returned v) w2 := by
  obtain ⟨A, c, rfl, h1, h2, h3⟩ := ho.form
  exact ⟨ll, A, c, rfl, h3, hl, h1, h2, hb.trans (grown_old hg (Nat.le_refl _) (by omega))⟩
end Go.Proofs.Ytaaljmmnfgghfaa
