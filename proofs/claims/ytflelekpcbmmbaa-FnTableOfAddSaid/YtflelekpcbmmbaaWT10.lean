/- One person more is in one cell. -/
import Derived.Test.YtflelekpcbmmbaaTI
import Derived.Test.YtflelekpcbmmbaaTL4
import Derived.Test.YtflelekpcbmmbaaTD3
import Derived.Test.YtflelekpcbmmbaaA2
import Derived.Test.YtflelekpcbmmbaaA4
import Derived.Deep.RegionHeld3
namespace Go.Proofs.Ytflelekpcbmmbaa
open Go.RowKit
theorem cell_new (l : List Pn) {a b : Nat} (ha : a < 4) (hb : b < 4) : (((tabOf l).set a (((tabOf l).getD a []).set b (((tabOf l).getD a []).getD b 0 + 1))).getD a []).getD b 0 = cel l a b + 1 := by
  have hl := tabOf_len l
  have hr : ((tabOf l).getD a []).length = 4 := by rw [tabOf_row l ha]; simp
  have e1 : ((tabOf l).set a (((tabOf l).getD a []).set b (((tabOf l).getD a []).getD b 0 + 1))).getD a [] = ((tabOf l).getD a []).set b (((tabOf l).getD a []).getD b 0 + 1) := by
    rw [List.getD_eq_getElem?_getD, List.getElem?_set_self (by omega)]; rfl
  have e2 : (((tabOf l).getD a []).set b (((tabOf l).getD a []).getD b 0 + 1)).getD b 0 = ((tabOf l).getD a []).getD b 0 + 1 := by
    rw [List.getD_eq_getElem?_getD, List.getElem?_set_self (by omega)]; rfl
  rw [e1, e2, tabOf_cell l ha hb]
theorem back_set (l : List Pn) {a b : Nat} (ha : a < 4) (hb : b < 4) {z : Int} (hz : z = cel l a b + 1) :
    ((tabOf l).set a (((tabOf l).getD a []).set b (((tabOf l).getD a []).getD b 0 + 1))).set a ((((tabOf l).set a (((tabOf l).getD a []).set b (((tabOf l).getD a []).getD b 0 + 1))).getD a []).set b (z - 1)) = tabOf l := by
  have hl := tabOf_len l
  have hr : ((tabOf l).getD a []).length = 4 := by rw [tabOf_row l ha]; simp
  have e1 : ((tabOf l).set a (((tabOf l).getD a []).set b (((tabOf l).getD a []).getD b 0 + 1))).getD a [] = ((tabOf l).getD a []).set b (((tabOf l).getD a []).getD b 0 + 1) := by
    rw [List.getD_eq_getElem?_getD, List.getElem?_set_self (by omega)]; rfl
  rw [e1, List.set_set, List.set_set, hz, show cel l a b + 1 - 1 = ((tabOf l).getD a []).getD b 0 by rw [tabOf_cell l ha hb]; omega]
  have e2 : ((tabOf l).getD a []).set b (((tabOf l).getD a []).getD b 0) = (tabOf l).getD a [] := by
    refine List.ext_getElem (by simp) fun i h1 h2 => ?_
    rw [List.getElem_set]
    split
    · next e => subst e; rw [getD_of _ _ (by omega)]
    · rfl
  rw [e2]; exact set_getD (tabOf l) (by omega)
set_option maxRecDepth 100000 in
set_option maxHeartbeats 4000000 in
theorem w_TableOfAdd (A : Option Addr) (n c : Nat) (hnc : n ≤ c) (hn : n ≤ maxLen) (A2 : Option Addr) (m c2 : Nat) (_hmc : m ≤ c2) (hm : m ≤ maxLen) (w : World) (hb : Bytes w w.heap.size A n) (_hb2 : Bytes w w.heap.size A2 m) :
    Calls Try.prog 6 #[.slice A n c, .slice A2 m c2] w fun e w' => e = .returned (.bool true) ∧ Below w.heap.size w w' := by
  have hn2 := hn
  have hm2 := hm
  unfold maxLen at hn2 hm2
  rcases (show 1048576 < n ∨ (¬ 1048576 < n ∧ 1048576 < m) ∨ ¬ 1048576 < n ∧ ¬ 1048576 < m by omega) with hbig | ⟨hbig, hbig2⟩ | ⟨hbig, hbig2⟩
  · go_enter Try.func6, Try.ntmps6
    go_wp2
    go_ret
    exact ⟨rfl, Below.refl _ _⟩
  · go_enter Try.func6, Try.ntmps6
    go_wp2
    go_ret
    exact ⟨rfl, Below.refl _ _⟩
  · go_enter Try.func6, Try.ntmps6
    go_wp2_with fail
    refine (dTabOf_any A n c hnc hn _ hb).mono ?_
    rintro e W ⟨v, l, rfl, hv, hl, hbd, hbW⟩
    have HV := Lib.hid hv
    obtain ⟨g, hg⟩ : ∃ g, okL l = g := ⟨_, rfl⟩
    have HG := Lib.hid hg
    obtain ⟨mt, hmt⟩ : ∃ mt, tabI l = mt := ⟨_, rfl⟩
    have HM := Lib.hid hmt
    have HL := Lib.hid (show l.length ≤ 1048576 by omega)
    clear hv hbd hg hmt
    go_wp2_with fail
    refine (iTabOf_is W l _ HV.out mt g HM.out HG.out HL.out _ (Below.refl _ _)).mono ?_
    rintro e w1 ⟨v1, rfl, ho1, b1⟩
    have HVa := Lib.hid (HV.out.below b1)
    go_wp2_with fail
    refine (sTabOf_is w1 l _ HVa.out mt g HM.out HG.out HL.out _ (Below.refl _ _)).mono ?_
    rintro e w2 ⟨v2, rfl, ho2, b2⟩
    have H1 := Lib.hid ((ho1.below b2).is)
    have H2 := Lib.hid ho2.is
    have HVb := Lib.hid (HVa.out.below b2)
    have HB := Lib.hid (hbW.trans ((b1.trans (b2.mono b1.size)).mono hbW.size))
    clear ho1 ho2 b1 b2 HVa HV hbW
    go_wp2_with fail
    refine (lRows_is w2 mt v1 H1.out v2 H2.out _ (Below.refl _ _)).mono ?_
    rintro e w3 ⟨rfl, b3⟩
    cases g
    · go_wp2_with fail
      refine (lRows_is w2 mt v1 H1.out v2 H2.out _ b3).mono ?_
      rintro e w4 ⟨rfl, b4⟩
      go_wp2
      go_ret
      exact ⟨rfl, HB.out.trans (b4.mono HB.out.size)⟩
    have hm5 : mt = tabOf l := by rw [← HM.out, tabI, if_pos HG.out]
    subst hm5
    have hoc := ok_codes HG.out
    have h40 := hoc.2.2
    obtain ⟨r1, hr1⟩ : ∃ r1 : Nat, (m : Int) % 4 = r1 := ⟨m % 4, by omega⟩
    obtain ⟨r2, hr2⟩ : ∃ r2 : Nat, (m : Int) / 4 % 4 = r2 := ⟨m / 4 % 4, by omega⟩
    have hb1 : r1 < 4 := by omega
    have hb2 : r2 < 4 := by omega
    obtain ⟨A0, c0, hv0, _, _, hrow⟩ := HVb.out
    subst hv0
    have HRW := Lib.hid hrow
    have HHC := Lib.hid hoc
    clear hoc hrow
    have HTT := Lib.hid (show ttot (tabOf l) = (l.length : Int) by rw [ttot, if_pos (tab_iff.2 (tabOf_tab (by omega))), tabOf_tsum HG.out])
    by_cases h40e : l.length = 40
    · have h40i : ((l.length : Int) == 40) = true := by simp; omega
      have hb3w := b3.alloc b3.size (.cells #[.int .i64 r1, .int .i64 r2, .int .i64 0, .int .i64 0] TP)
      clear h40e
      go_wp2_with fail
      refine (iTotal_is w2 (tabOf l) _ H1.out (l.length : Int) HTT.out _ hb3w).mono ?_
      rintro e w8 ⟨rfl, b8⟩
      go_wp2
      go_ret
      exact ⟨by first | rfl | exact retb (by simp), HB.out.trans (b8.mono HB.out.size)⟩
    · have h40i : ((l.length : Int) == 40) = false := by simp; omega
      have h39 : l.length ≤ 39 := by omega
      clear h40e
      obtain ⟨p, hp⟩ : ∃ p : Pn, p = ⟨r1, r2, 0, 0⟩ := ⟨_, rfl⟩
      have hp1 : p.area = (r1 : Int) := by rw [hp]
      have hp2 : p.job = (r2 : Int) := by rw [hp]
      have hokp : okL (l ++ [p]) = true := by
        have h := HG.out
        simp only [okL, Bool.and_eq_true, decide_eq_true_eq, List.all_append, List.length_append, List.length_cons, List.length_nil] at h ⊢
        refine ⟨by omega, h.2, ?_⟩
        rw [hp]; simp [okP, inC]; omega
      have HOKP := Lib.hid hokp
      have HSN := Lib.hid (tabOf_snoc l p hb1 hb2 hp1 hp2)
      have HCB := Lib.hid (show 0 ≤ cel l r1 r2 ∧ cel l r1 r2 ≤ 40 by
        have h1 : (l.filter fun p => decide (p.area = (r1 : Int)) && decide (p.job = (r2 : Int))).length ≤ l.length := List.length_filter_le _ _
        unfold cel; omega)
      obtain ⟨W5, hW5⟩ : ∃ W5, W5 = w3.alloc (.cells #[.int .i64 p.area, .int .i64 p.job, .int .i64 p.sex, .int .i64 p.pay] TP) := ⟨_, rfl⟩
      have bw5 : Below w2.heap.size w2 W5 := by rw [hW5]; exact b3.alloc b3.size _
      have hQ5 : w3.heap.size < W5.heap.size := by rw [hW5]; simp
      have q0 : W5.cell? ⟨w3.heap.size, 0, none⟩ = some (.int .i64 p.area) := by rw [hW5]; simp [go_sem]
      have q1 : W5.cell? ⟨w3.heap.size, 1, none⟩ = some (.int .i64 p.job) := by rw [hW5]; simp [go_sem]
      have q2 : W5.cell? ⟨w3.heap.size, 2, none⟩ = some (.int .i64 p.sex) := by rw [hW5]; simp [go_sem]
      have q3 : W5.cell? ⟨w3.heap.size, 3, none⟩ = some (.int .i64 p.pay) := by rw [hW5]; simp [go_sem]
      have HQ0 := Lib.hid q0
      have HQ1 := Lib.hid q1
      have hrow5 : Row W5 W5.heap.size A0 (pcells l) := (HRW.out.below bw5 (Nat.le_refl _)).more bw5.size
      have HWP := Lib.hid (show w3.alloc (.cells #[.int .i64 r1, .int .i64 r2, .int .i64 0, .int .i64 0] TP) = W5 by rw [hW5, hp])
      have HP1 := Lib.hid hp1
      have HP2 := Lib.hid hp2
      obtain ⟨Q, hQ⟩ : ∃ Q, w3.heap.size = Q := ⟨_, rfl⟩
      rw [hQ] at q0 q1 q2 q3 hQ5 HQ0 HQ1
      have HQQ := Lib.hid hQ
      clear hW5 hp hokp hp1 hp2 hQ
      go_wp2
      rw [HWP.out, HQQ.out]
      have HF := Lib.hid (show ∀ w' : World, Below W5.heap.size W5 w' → (Below W5.heap.size W5 w' ∧ w'.cell? ⟨Q, 0, none⟩ = some (.int .i64 p.area) ∧ w'.cell? ⟨Q, 1, none⟩ = some (.int .i64 p.job) ∧ w'.cell? ⟨Q, 2, none⟩ = some (.int .i64 p.sex) ∧ w'.cell? ⟨Q, 3, none⟩ = some (.int .i64 p.pay)) from fun w' h => ⟨h, (h.cell (p := ⟨Q, 0, none⟩) hQ5).trans q0, (h.cell (p := ⟨Q, 1, none⟩) hQ5).trans q1, (h.cell (p := ⟨Q, 2, none⟩) hQ5).trans q2, (h.cell (p := ⟨Q, 3, none⟩) hQ5).trans q3⟩)
      have b0 : Below W5.heap.size W5 W5.drew := (Below.refl _ _).drew
      have bA : Below W5.heap.size W5 ((W5.alloc (.cells #[] TP)).drew) := ((Below.refl _ _).alloc (Nat.le_refl _) _).drew
      have bC : Below W5.heap.size W5 ((W5.alloc (lit1 p)).drew) := ((Below.refl _ _).alloc (Nat.le_refl _) _).drew
      have bAB : Below W5.heap.size W5 (((W5.alloc (.cells #[] TP)).alloc (lit1 p)).drew) := (((Below.refl _ _).alloc (Nat.le_refl _) _).alloc (by simp) _).drew
      have bCB : Below W5.heap.size W5 (((W5.alloc (lit1 p)).alloc (.cells #[] TP)).drew) := (((Below.refl _ _).alloc (Nat.le_refl _) _).alloc (by simp) _).drew
      have oA : Own ((W5.alloc (.cells #[] TP)).drew) W5.heap.size (.slice (some ⟨W5.heap.size, 0, none⟩) 0 0) [] := own_new W5 W5 (Below.refl _ _)
      have oAB : Own (((W5.alloc (.cells #[] TP)).alloc (lit1 p)).drew) W5.heap.size (.slice (some ⟨W5.heap.size, 0, none⟩) 0 0) [] := Own.alloc oA _
      have oCB : Own (((W5.alloc (lit1 p)).alloc (.cells #[] TP)).drew) W5.heap.size (.slice (some ⟨W5.heap.size + 1, 0, none⟩) 0 0) [] := ownA p
      have lAB := Lib.hid (show (((W5.alloc (.cells #[] TP)).alloc (lit1 p)).drew).heap[W5.heap.size + 1]? = some (lit1 p) from heap_alloc2_new W5 _ _)
      have lCB := Lib.hid (show (((W5.alloc (lit1 p)).alloc (.cells #[] TP)).drew).heap[W5.heap.size]? = some (lit1 p) from heap_alloc2_old W5 _ _)
      clear q0 q1 q2 q3
      go_wp2
      go_region_held3 (fun w' => Below W5.heap.size W5 w' ∧ w'.cell? ⟨Q, 0, none⟩ = some (.int .i64 p.area) ∧ w'.cell? ⟨Q, 1, none⟩ = some (.int .i64 p.job) ∧ w'.cell? ⟨Q, 2, none⟩ = some (.int .i64 p.sex) ∧ w'.cell? ⟨Q, 3, none⟩ = some (.int .i64 p.pay))
        (first | exact HF.out _ (by assumption) | exact HF.out _ b0 | exact HF.out _ bA | exact HF.out _ bC | exact HF.out _ bAB | exact HF.out _ bCB | exact HF.out _ (Below.alloc (by assumption) (Below.size (by assumption)) _))
        (first
          | (refine step_people rfl (.tmp 71) (.tmp 72) rfl W5.heap.size (.slice (some ⟨W5.heap.size, 0, none⟩) 0 0) [] rfl oA W5.heap.size A0 l.length c0 l rfl rfl (hrow5.below bA (Nat.le_refl _)) (by simp; omega) bA.size ?_
             intro v3 w3 ho3 hg3
             have hb3 : Below W5.heap.size W5 w3 := below_own bA oA hg3)
          | (refine step_people rfl (.tmp 71) (.tmp 72) rfl W5.heap.size (.slice (some ⟨W5.heap.size, 0, none⟩) 0 0) [] rfl oAB W5.heap.size A0 l.length c0 l rfl rfl (hrow5.below bAB (Nat.le_refl _)) (by simp; omega) bAB.size ?_
             intro v3 w3 ho3 hg3
             have hb3 : Below W5.heap.size W5 w3 := below_own bAB oAB hg3
             have hlit := rowA (Bd := W5.heap.size + 2) (keepA lAB.out hg3 (by simp [Value.ownBlock])) (by omega))
          | (refine step_people rfl (.tmp 71) (.tmp 72) rfl W5.heap.size (.slice (some ⟨W5.heap.size + 1, 0, none⟩) 0 0) [] rfl oCB W5.heap.size A0 l.length c0 l rfl rfl (hrow5.below bCB (Nat.le_refl _)) (by simp; omega) bCB.size ?_
             intro v3 w3 ho3 hg3
             have hb3 : Below W5.heap.size W5 w3 := below_own bCB oCB hg3
             have hlit := rowA (Bd := W5.heap.size + 2) (keepA lCB.out hg3 (by simp [Value.ownBlock])) (by omega))
          | (refine step_people rfl (.tmp 73) (.tmp 75) rfl W5.heap.size v3 ([] ++ l) (by simp [Act.eval]) (ho3.alloc _) (w3.heap.size + 1) (some ⟨w3.heap.size, 0, none⟩) 1 1 [p] rfl rfl (rowA (heap_alloc_new w3 _) (by omega)) (by simp; omega) (by have := hb3.size; simp; omega) ?_
             intro v4 w4 ho4 hg4
             have hb4 : Below W5.heap.size W5 w4 := below_own (hb3.alloc hb3.size _) (ho3.alloc _) hg4)
          | (refine step_people rfl (.tmp 73) (.tmp 75) rfl W5.heap.size v3 ([] ++ l) (by simp [Act.eval]) ho3 (W5.heap.size + 2) (some ⟨W5.heap.size + 1, 0, none⟩) 1 1 [p] rfl rfl hlit (by simp; omega) hb3.size ?_
             intro v4 w4 ho4 hg4
             have hb4 : Below W5.heap.size W5 w4 := below_own hb3 ho3 hg4)
          | (refine step_people rfl (.tmp 73) (.tmp 75) rfl W5.heap.size v3 ([] ++ l) (by simp [Act.eval]) ho3 (W5.heap.size + 2) (some ⟨W5.heap.size, 0, none⟩) 1 1 [p] rfl rfl hlit (by simp; omega) hb3.size ?_
             intro v4 w4 ho4 hg4
             have hb4 : Below W5.heap.size W5 w4 := below_own hb3 ho3 hg4)
          | (go_at_call 9
             refine (iTabOf_is w4 (l ++ [p]) v4 (by simpa using ho4.isP') (tabOf (l ++ [p])) true (by rw [tabI, if_pos HOKP.out]) HOKP.out (by simp; omega) _ (Below.refl _ _)).mono ?_
             rintro e w5 ⟨v5, rfl, ho5, h5⟩
             have h6 : Below W5.heap.size W5 w5 := hb4.trans (h5.mono hb4.size)))
      all_goals
        rename_i hHeld
        clear hHeld
        obtain ⟨M, hM⟩ : ∃ M, tabOf (l ++ [p]) = M := ⟨_, rfl⟩
        rw [hM] at ho5
        have HMS := Lib.hid (hM.symm.trans HSN.out)
        have hMl : M.length = 4 := by rw [← hM, tabOf_len]
        have hMr : ∀ i, i < 4 → (M.getD i []).length = 4 := fun i hi => by rw [← hM, tabOf_row _ hi]; simp
        have HBK := Lib.hid (show ∀ z : Int, z = cel l r1 r2 + 1 → M.set r1 ((M.getD r1 []).set r2 (z - 1)) = tabOf l from fun z hz => by
          rw [HMS.out]; exact back_set l hb1 hb2 hz)
        have hzM : (M.getD r1 []).getD r2 0 = cel l r1 r2 + 1 := by
          rw [HMS.out]; exact cell_new l hb1 hb2
        obtain ⟨ga, ca, g0, d0, hv5, e0, _, _, _, _, _, _⟩ := ho5.cell (i := 0) (j := 0) (by omega) (by rw [hMr 0 (by omega)]; omega)
        obtain ⟨gb, cb, gi, ci, hv6, e1, hgB, hgi, hne, e2, f2, hset⟩ := ho5.cell (i := r1) (j := r2) (by omega) (by rw [hMr r1 hb1]; exact hb2)
        rw [hv5] at hv6
        injection hv6 with k1 _ k3
        injection k1 with k1
        injection k1 with k1
        subst hv5 k1 k3
        rw [hMr 0 (by omega)] at e0
        rw [hMr r1 hb1] at e1
        obtain ⟨z, hz⟩ : ∃ z, (M.getD r1 []).getD r2 0 = z := ⟨_, rfl⟩
        rw [hz] at e2 hzM
        have HBZ := Lib.hid (HBK.out z hzM)
        have hcb := HCB.out
        have hzb : 1 ≤ z ∧ z ≤ 41 := by omega
        have hzw : IntKind.i64.wrap (z - 1) = z - 1 := IntWalk.i64_in _ (by omega)
        have HSET := Lib.hid (hset (z - 1))
        have x0 : w5.cell? ⟨Q, 0, none⟩ = some (.int .i64 r1) := by rw [← HP1.out]; exact (h6.cell (p := ⟨Q, 0, none⟩) hQ5).trans HQ0.out
        have x1 : w5.cell? ⟨Q, 1, none⟩ = some (.int .i64 r2) := by rw [← HP2.out]; exact (h6.cell (p := ⟨Q, 1, none⟩) hQ5).trans HQ1.out
        have hr1i : (r1 : Int) < 4 := by omega
        have hr2i : (r2 : Int) < 4 := by omega
        have HB6 := Lib.hid (bw5.trans (h6.mono bw5.size))
        have HB46 := Lib.hid (show w2.heap.size ≤ w4.heap.size from Nat.le_trans bw5.size hb4.size)
        have HH : ∀ (x : Option Prop), True := fun _ => trivial
        have HML := Lib.hid hMl.symm
        rw [hMl]
        clear hM hMl hMr hz hzM hcb ho5 hset h5 h6 hb4 bw5 b0 bA bC bAB bCB oA oAB oCB hrow5 HF HSN HMS HBK HH
        have HV5 := Lib.hid (show M.length = 4 by rw [← HML.out])
        go_wp2
        go_still_tail 18, (by kernel_rfl)
        change wpList _ _ _ _ _ w5.drew
        obtain ⟨X, hX⟩ : ∃ X, X = w5.drew := ⟨_, rfl⟩
        have xf : X.frozen? ⟨gi, r2, none⟩ = false := by rw [hX]; exact f2
        have xc : X.cell? ⟨gi, r2, none⟩ = some (.int .i64 z) := by rw [hX]; exact e2
        have HS2 := Lib.hid (show InR (X.setCell ⟨gi, r2, none⟩ (.int .i64 (z - 1))) w4.heap.size w5.heap.size (.slice (some ⟨ga, 0, none⟩) 4 ca) (tabOf l) by
          rw [hX, ← HBZ.out]; have h := HSET.out; rw [HV5.out] at h; exact h)
        have HX2 := Lib.hid (show Below w2.heap.size w2 (X.setCell ⟨gi, r2, none⟩ (.int .i64 (z - 1))) by
          rw [hX]; exact (HB6.out.drew).setCell (Nat.le_trans HB46.out hgi.1) _)
        rw [← hX]
        clear hX e0 e1 e2 f2 x0 x1 HSET
        go_wp2_with fail
        refine (lRows_is _ (tabOf l) _ HS2.out.is _ (H1.out.below HX2.out) _ (Below.refl _ _)).mono ?_
        rintro e w9 ⟨rfl, b9⟩
        go_wp2
        go_ret
        exact ⟨rfl, HB.out.trans ((HX2.out.trans (b9.mono HX2.out.size)).mono HB.out.size)⟩
end Go.Proofs.Ytflelekpcbmmbaa
