/- Contracts of the program: rows added up. -/
import Derived.Test.YtkdffgcmnanniaaIMD
import Derived.Test.YtkdffgcmnanniaaIMC
import Derived.Test.YtkdffgcmnanniaaTLT
namespace Go.Proofs.Ytkdffgcmnanniaa
open Go.RowKit Go.Shelf
theorem iHasR_any (q d a : Int) (w : World) : Calls Try.prog 45 #[szV q d, .int .i64 a] w fun e w' => e = .returned (.bool (decide (0 ≤ a) && decide (a < q))) ∧ Below w.heap.size w w' := by
  go_enter Try.func45, Try.ntmps45
  go_wp2
  all_goals (go_ret; exact ⟨retb (by rw [Bool.eq_iff_iff]; simp; try omega), by first | exact (Below.refl _ _).alloc (Nat.le_refl _) _ | exact Below.alloc (by assumption) (Nat.le_refl _) _⟩)
theorem iClone_any (row : List Int) (n : Nat) (hn : n = row.length) (hx : row.length ≤ 100000) (b o c : Nat) (w : World) (hr : Row w w.heap.size (some ⟨b, o, none⟩) (icells row)) :
    Calls Try.prog 57 #[.slice (some ⟨b, o, none⟩) n c] w fun e w' => ∃ A6 c6, e = .returned (.slice A6 n c6) ∧ Own1 TN w' w.heap.size (.slice A6 n c6) (icells row) ∧ Below w.heap.size w w' := by
  subst hn
  go_enter Try.func57, Try.ntmps57
  have hbin : ∀ x : World, (binOp BinOp.eql 29 (.slice (some ⟨b, o, none⟩) row.length c) (.slice none 0 0)).run Try.prog x = .ok (.bool false) x := fun x => by rfl
  go_wp2_with (at_builtin
               refine app1 one_I rfl (.tmp 5) (.tmp 6) rfl w.heap.size _ [] rfl (own1_new (Nat.le_refl _)) w.heap.size (some ⟨b, o, none⟩) row.length c (icells row) (icells_len row).symm rfl (hr.below ((Below.refl w.heap.size w).alloc (Nat.le_refl _) _) (by omega)) (icells_one row) (by rw [icells_len]; simp; omega) (by simp) ?_
               intro v6 w6 ho6 hg6 _
               rw [List.nil_append] at ho6
               obtain ⟨A6, c6, hv6, _, _, _, _⟩ := ho6.form
               rw [icells_len] at hv6
               subst hv6
               have HB6 := Lib.hid (below_own1 (W := w) ((Below.refl _ _).alloc (Nat.le_refl _) _) (own1_new (Nat.le_refl _)) hg6)
               have HO6 := Lib.hid ho6
               clear ho6 hg6)
  go_ret
  exact ⟨_, _, rfl, HO6.out, HB6.out⟩
theorem mine_nil {w : World} {B g c : Nat} (h : Own1 TI w B (.slice (some ⟨g, 0, none⟩) 0 c) []) : Mine w B w.heap.size (.slice (some ⟨g, 0, none⟩) 0 c) [] :=
  ⟨Nat.le_refl _, fun k e => (h.ob k e).2, [], h, rfl, fun i hi => by simp at hi, fun i j k _ hj => by simp at hj⟩
def keepF (t : Tb) (j k : Nat) : Tb := (t.take k).eraseIdx j
theorem keepF_same {t : Tb} {j : Nat} (hj : j < t.length) : keepF t j (j + 1) = keepF t j j := by
  unfold keepF
  rw [take_snocT t j hj, List.eraseIdx_append_of_length_le (by rw [List.length_take]; omega), List.length_take, Nat.min_eq_left (by omega), Nat.sub_self, List.eraseIdx_of_length_le (l := t.take j) (by rw [List.length_take]; omega)]
  simp
theorem keepF_more {t : Tb} {j k : Nat} (hk : k < t.length) (hne : k ≠ j) : keepF t j (k + 1) = keepF t j k ++ [t.getD k []] := by
  unfold keepF
  rw [take_snocT t k hk]
  rcases Nat.lt_or_ge j k with h | h
  · rw [List.eraseIdx_append_of_lt_length (by rw [List.length_take]; omega)]
  · rw [List.eraseIdx_append_of_length_le (by rw [List.length_take]; omega), List.length_take, Nat.min_eq_left (by omega), List.eraseIdx_of_length_le (l := t.take k) (by rw [List.length_take]; omega), List.eraseIdx_of_length_le (by simp; omega)]
theorem keepF_len (t : Tb) (j k : Nat) : (keepF t j k).length ≤ t.length := by
  unfold keepF
  have := List.length_eraseIdx_le (t.take k) j
  rw [List.length_take] at this; omega
theorem keepF_all (t : Tb) (j : Nat) : keepF t j t.length = t.eraseIdx j := by rw [keepF, List.take_length]
theorem set_erase {t : Tb} {i j : Nat} (h : i < j) (x : List Int) : (t.eraseIdx j).set i x = (t.set i x).eraseIdx j := by
  refine List.ext_getElem? fun k => ?_
  rw [List.getElem?_set, List.getElem?_eraseIdx, List.getElem?_eraseIdx, List.getElem?_set, List.getElem?_set, List.length_eraseIdx]
  by_cases hk : i = k
  · subst hk
    rw [if_pos rfl, if_pos h, if_pos rfl]
    by_cases hl : i < t.length
    · rw [if_pos hl, if_pos (by split <;> omega)]
    · rw [if_neg hl, if_neg (by split <;> omega)]
  · rw [if_neg hk, if_neg hk]
    by_cases hkj : k < j
    · rw [if_pos hkj, if_pos hkj]
    · rw [if_neg hkj, if_neg hkj, if_neg (by omega)]
theorem erase_row {t : Tb} {i j : Nat} (h : i < j) : (t.eraseIdx j).getD i [] = t.getD i [] := by
  rw [List.getD_eq_getElem?_getD, List.getElem?_eraseIdx, if_pos h, List.getD_eq_getElem?_getD]
set_option maxHeartbeats 4000000 in
theorem iFoldRows_is (t : Tb) (ht : tabOk t = true) (i j : Nat) (hij : i < j) (hj : j < t.length) (v : Value) (w : World) (hv : IsR w v t) (q d : Nat) (hq : q = t.length) (hd : d = wd t) :
    Calls Try.prog 46 #[grV q d v, .int .i64 i, .int .i64 j] w (OutR1 (foldT t i j) w) := by
  obtain ⟨w0, hw0, b0, hz0, k0⟩ := one_blk w #[.int .i64 q, .int .i64 d, v] TGI
  have HQ := Lib.hid hq
  have HD := Lib.hid hd
  have HT := Lib.hid ht
  have hq4 : 1 ≤ q ∧ q ≤ 4 ∧ 1 ≤ d ∧ d ≤ 4 := by have h1 := tab_iff.1 ht; rw [hq, hd]; exact ⟨h1.h1, h1.h4, h1.w1, h1.w4⟩
  have hjq : j < q := by omega
  have HV := Lib.hid (hv.below b0)
  obtain ⟨A, c, rfl, a1, a2, _⟩ := hv
  rw [← hq] at k0 hw0 HV ⊢
  have HR := Lib.hid HV.out.head.2.2.2
  obtain ⟨b, o, _, _, rfl, _, _, _, _, _⟩ := HR.out.at_ 0 (by rw [← HQ.out]; omega)
  have HW0 := Lib.hid hw0.symm
  have HB0 := Lib.hid b0
  have hlt0 : w.heap.size < w0.heap.size := by omega
  have HK := Lib.hid (show ∀ X, Below w0.heap.size w0 X → X.heap[w.heap.size]? = some (.cells #[.int .i64 q, .int .i64 d, .slice (some ⟨b, o, none⟩) q c] TGI (0, 0)) from fun X h => (h.block _ hlt0).trans k0)
  obtain ⟨i1, hi1, hy0, hy1, hy2⟩ := info_parts (P := Try.prog) (e := TI) (z := .slice none 0 0) (size := 1) (bytes := 24) (by kernel_rfl)
  clear hw0 hz0 k0 b0 a1 a2 hq hd ht hj
  go_enter Try.func46, Try.ntmps46
  obtain ⟨c0, c1, c2, _, _, _⟩ := blkG3 (HK.out w0 (Below.refl _ _))
  rw [← HW0.out] at c0 c1 c2
  have hqs : (q : Int) - 1 = ((q - 1 : Nat) : Int) := by omega
  go_wp2_with (at_make
               rw [HW0.out]
               go_loud (refine wpList_make_own _ rfl _ _ TII rfl w0.heap.size TI i1 (.slice none 0 0) 1 Try.underlying23 hi1 hy0 hy1 _ _ _ (q - 1) rfl rfl (by omega) (by rw [hy2]; omega) (by simp only [maxLen]; omega) (Nat.le_refl _) ?_)
               intro w4 ho4 hg4
               have HB4 := Lib.hid (show Below w0.heap.size w0 w4 from (Below.refl _ _).grown hg4 (Nat.le_refl _) (fun k hk => by cases hk))
               have HO := Lib.hid (mine_nil (show Own1 TI w4 w0.heap.size (.slice (some ⟨w0.heap.size, 0, none⟩) 0 (q - 1 : Nat)) [] from ho4))
               clear ho4 hg4 c0 c1 c2
               obtain ⟨_, _, c2, _, _, _⟩ := blkG3 (HK.out w4 HB4.out))
  go_loopw [7, 20] (fun v x wr => ∃ k : Nat, k ≤ q ∧ x = .int .i64 k ∧ Mine wr w0.heap.size wr.heap.size v (keepF t j k) ∧ Below w0.heap.size w0 wr) (fun _ x _ => q - (intOf x).toNat)
  case atStart => exact ⟨0, Nat.zero_le _, rfl, by rw [show keepF t j 0 = [] by simp [keepF]]; exact HO.out, HB4.out⟩
  case round =>
    obtain ⟨k, hk, rfl, ho, hb⟩ := hrel
    clear HO HB4 c2
    have HOL := Lib.hid ho
    have HB5 := Lib.hid hb
    have hz5 := hb.size
    clear ho hb
    by_cases hlt : k < q
    · have hki : (k : Int) < (q : Int) := by omega
      have hkt : k < t.length := by rw [← HQ.out]; exact hlt
      have hrl : (t.getD k []).length = d := by rw [tab_lens HT.out hkt, HD.out]
      obtain ⟨b1, o1, Ai, ci, hA, hb1, c0, g1, g2, r0⟩ := (HR.out.below HB5.out (Nat.le_refl _)).at_ k hkt
      injection hA with hA
      injection hA with p1 p2 _
      subst p1 p2
      obtain ⟨b2, o2, hA2, _, _⟩ := r0.int_ 0 (by rw [hrl]; omega)
      subst hA2
      rw [hrl] at c0
      by_cases hkj : k = j
      · have hbq : ((k : Int) == (j : Int)) = true := by rw [beq_iff_eq]; omega
        have hne : ¬ (k : Int) ≠ (j : Int) := by omega
        have HS := Lib.hid (show keepF t j (k + 1) = keepF t j k by rw [hkj]; exact keepF_same (by rw [← hkj]; exact hkt))
        have hjk : j = k := hkj.symm
        subst hjk
        clear r0 hkt hrl g1 g2
        go_wp2
        go_roundw
        case rel => exact ⟨j + 1, by omega, by go_num, by rw [HS.out]; exact HOL.out, HB5.out⟩
        case measure => simp [intOf]; omega
      · have hbq : ((k : Int) == (j : Int)) = false := by rw [beq_eq_false_iff_ne]; omega
        have HS := Lib.hid (keepF_more (j := j) hkt hkj)
        obtain ⟨row, hrow⟩ : ∃ row, t.getD k [] = row := ⟨_, rfl⟩
        rw [hrow] at HS r0 hrl
        have HROW := Lib.hid (show Row wr wr.heap.size (some ⟨b2, o2, none⟩) (icells row) from r0.more hz5)
        have HRL := Lib.hid hrl.symm
        have HX := Lib.hid (show row.length ≤ 100000 by omega)
        have HL4 := Lib.hid (show (keepF t j k).length + 1 ≤ 1000000 by have := keepF_len t j k; have := HQ.out; omega)
        clear r0 hkt hrl g1 g2 hrow
        go_wp2_with fail
        refine (iClone_any row d HRL.out HX.out b2 o2 ci wr HROW.out).mono ?_
        rintro e w6 ⟨A6, c6, rfl, ho6, hb6⟩
        have hz6 := hb6.size
        have HRW := Lib.hid ((ho6.alloc (.cells #[.slice A6 d c6] TI)).less hz5)
        have HFR := Lib.hid (show ∀ k, (Value.slice A6 d c6).ownBlock = some k → some k ≠ u7.ownBlock ∧ (wr.heap.size ≤ k ∨ k < w0.heap.size) from fun k e => by
          have h1 := (ho6.ob k e).1
          exact ⟨fun e2 => by have := (HOL.out.ob k e2.symm).2; omega, .inl h1⟩)
        have HOL2 := Lib.hid (HOL.out.below hb6)
        have HB7 := Lib.hid (HB5.out.trans (hb6.mono hz5))
        clear HOL HB5 ho6 hb6 c0
        go_wp2_with (at_builtin
                     refine appMine rfl (.tmp 28) (.tmp 31) rfl w0.heap.size wr.heap.size u7 (keepF t j k) rfl (HOL2.out.alloc _) (w6.heap.size + 1) (some ⟨w6.heap.size, 0, none⟩) 1 (.slice A6 d c6) row rfl (row_lit w6 #[.slice A6 d c6] TI) w0.heap.size (Nat.le_refl _) HRW.out HFR.out HL4.out (by simp; omega) ?_
                     intro v7 w7 ho7 hg7 _
                     have HB8 := Lib.hid (below_ownLL (HB7.out.alloc HB7.out.size _) (HOL2.out.own.alloc _) hg7)
                     have HO7 := Lib.hid ho7
                     clear ho7 hg7)
        go_roundw
        case rel => exact ⟨k + 1, by omega, by go_num, by rw [HS.out]; exact HO7.out, HB8.out⟩
        case measure => simp [intOf]; omega
    · have hki : ¬ (k : Int) < (q : Int) := by omega
      have hkq : keepF t j k = t.eraseIdx j := by rw [show k = t.length by have := HQ.out; omega]; exact keepF_all t j
      rw [hkq] at HOL
      clear hkq
      have hij2 : i < (t.eraseIdx j).length := by rw [List.length_eraseIdx, if_pos (by rw [← HQ.out]; exact hjq)]; have := HQ.out; omega
      have hti : i < t.length := by rw [← HQ.out]; omega
      have htj : j < t.length := by rw [← HQ.out]; exact hjq
      have HTI := Lib.hid hti
      have HTJ := Lib.hid htj
      have HEL := Lib.hid (show (t.eraseIdx j).length = q - 1 by rw [List.length_eraseIdx, if_pos htj, HQ.out])
      have HO := Lib.hid (show Mine wr w0.heap.size wr.heap.size u7 ((t.eraseIdx j).set i (rowTo t i j 0)) by
        rw [rowTo_zero HT.out hti, ← erase_row hij, set_getD _ hij2]; exact HOL.out)
      clear HOL hij2
      obtain ⟨T, hT⟩ : ∃ T, T = wr.heap.size := ⟨_, rfl⟩
      rw [← hT] at HO
      obtain ⟨g2, c4, hv2⟩ : ∃ g2 c4, u7 = .slice (some ⟨g2, 0, none⟩) (q - 1) c4 := by
        obtain ⟨g2, c4, _, _, h, _⟩ := HO.out.cell (i := i) (j := 0) (by rw [List.length_set, HEL.out]; omega) (by rw [getD_set_self _ (by rw [HEL.out]; omega), rowTo_len, ← HD.out]; omega)
        exact ⟨g2, c4, by rw [h, List.length_set, HEL.out]⟩
      subst hv2
      obtain ⟨b1, o1, Aj, cj, hA, hb1, c0, _, _, rj⟩ := HR.out.at_ j htj
      injection hA with hA
      injection hA with p1 p2 _
      subst p1 p2
      rw [tab_lens HT.out htj, ← HD.out] at c0
      have HC0 := Lib.hid c0
      have HRJ := Lib.hid rj
      have e0 := (HB5.out.cell (p := ⟨b, o + j, none⟩) hb1).trans c0
      obtain ⟨_, _, c2, _, _, _⟩ := blkG3 (HK.out wr HB5.out)
      have hji : (j : Int) < (q : Int) := by omega
      have hT2 : T ≤ wr.heap.size := by omega
      clear hti htj rj c0 hT
      go_wp2
      clear c2 e0
      go_loopw [40] (fun y wr' => ∃ k : Nat, k ≤ d ∧ y = .int .i64 k ∧ Mine wr' w0.heap.size T (.slice (some ⟨g2, 0, none⟩) (q - 1) c4) ((t.eraseIdx j).set i (rowTo t i j k)) ∧ Below w0.heap.size w0 wr') (fun y _ => d - (intOf y).toNat)
      case atStart => exact ⟨0, Nat.zero_le _, rfl, HO.out, HB5.out⟩
      case round =>
        obtain ⟨k', hk', rfl, ho, hb⟩ := hrel
        clear HO HB5
        by_cases hlt' : k' < d
        · have hki' : (k' : Int) < (d : Int) := by omega
          have hkw : k' < wd t := by rw [← HD.out]; exact hlt'
          obtain ⟨bj, oj, hAj, hbj, hcj⟩ := HRJ.out.int_ k' (by rw [tab_lens HT.out HTJ.out]; exact hkw)
          subst hAj
          have ej := (hb.cell (p := ⟨bj, oj + k', none⟩) hbj).trans hcj
          obtain ⟨g', c', gi, ci, hv', k0, _, ⟨hgi, hgT⟩, _, k1, kf, hset⟩ := ho.cell (i := i) (j := k') (by rw [List.length_set, HEL.out]; omega) (by rw [getD_set_self _ (by rw [HEL.out]; omega), rowTo_len]; exact hkw)
          injection hv' with hv1 hv2 hv3
          injection hv1 with hv1
          injection hv1 with hv1 _ _
          subst hv1
          rw [getD_set_self _ (by rw [HEL.out]; omega), rowTo_len, ← HD.out] at k0
          rw [getD_set_self _ (by rw [HEL.out]; omega), rowTo_get _ _ _ hkw] at k1
          have HSET := Lib.hid (show Mine (wr.setCell ⟨gi, k', none⟩ (.int .i64 ((t.getD i []).getD k' 0 + (t.getD j []).getD k' 0))) w0.heap.size T (.slice (some ⟨g2, 0, none⟩) (q - 1) c4) ((t.eraseIdx j).set i (rowTo t i j (k' + 1))) by
            have h := hset ((t.getD i []).getD k' 0 + (t.getD j []).getD k' 0)
            rw [getD_set_self _ (by rw [HEL.out]; omega), rowTo_step, List.set_set] at h
            exact h)
          have hx := cell_bd (tab_iff.1 HT.out) HTI.out hkw
          have hy := cell_bd (tab_iff.1 HT.out) HTJ.out hkw
          obtain ⟨x, hxe⟩ : ∃ x, (t.getD i []).getD k' 0 = x := ⟨_, rfl⟩
          obtain ⟨y, hye⟩ : ∃ y, (t.getD j []).getD k' 0 = y := ⟨_, rfl⟩
          rw [hxe, hye] at HSET
          rw [hxe] at k1 hx
          rw [hye] at ej hy
          have hwx : wrap64 (x + y) = x + y := by first | omega | (unfold wrap64; omega) | (simp [wrap64]; omega)
          have HBS := Lib.hid (hb.setCell (p := ⟨gi, k', none⟩) hgi (.int .i64 (x + y)))
          have hii : (i : Int) < ((q - 1 : Nat) : Int) := by omega
          clear hset ho hb hv2 hv3 hkw hxe hye hcj
          go_wp2
          go_roundw
          case rel => exact ⟨k' + 1, by omega, by go_num, HSET.out, HBS.out⟩
          case measure => simp [intOf]; omega
        · have hki' : ¬ (k' : Int) < (d : Int) := by omega
          have hkd : k' = wd t := by rw [← HD.out]; omega
          rw [hkd, rowTo_all HT.out HTI.out HTJ.out, set_erase hij] at ho
          have HO := Lib.hid (show Mine wr w.heap.size wr.heap.size (.slice (some ⟨g2, 0, none⟩) (q - 1) c4) (foldT t i j) from (ho.lower (Nat.le_of_lt hlt0)).up)
          have HBX := Lib.hid (HB0.out.trans (hb.mono (Nat.le_of_lt hlt0)))
          clear ho hb hkd
          go_wp2
          go_ret
          exact ⟨_, rfl, HO.out, HBX.out⟩
theorem fold_parts (t : Tb) (a b : Int) : foldOk t a b = (tabOk t && (!decide (b ≤ a) && ((decide (0 ≤ a) && decide (a < t.length)) && ((decide (0 ≤ b) && decide (b < t.length)) && tabOk (foldT t a.toNat b.toNat))))) := by
  rw [Bool.eq_iff_iff]
  simp only [foldOk, in3, Bool.and_eq_true, decide_eq_true_eq, Bool.not_eq_true', decide_eq_false_iff_not]
  constructor
  · rintro ⟨⟨⟨h1, h2⟩, h3⟩, h4⟩
    exact ⟨h1, by omega, ⟨by omega, by omega⟩, ⟨by omega, by omega⟩, h4⟩
  · rintro ⟨h1, h2, ⟨h3, h4⟩, ⟨h5, h6⟩, h7⟩
    exact ⟨⟨⟨h1, by omega, by omega⟩, by omega, by omega⟩, h7⟩
set_option maxHeartbeats 2000000 in
theorem iFold_is (W : World) (t : Tb) (v : Value) (hv : IsR W v t) (a b : Int) (m : Tb) (g : Bool) (hm : foldI t a b = m) (hg : foldOk t a b = g) (w : World) (hb : Below W.heap.size W w) :
    Calls Try.prog 23 #[v, .int .i64 a, .int .i64 b] w (OutRT m g w) := by
  have HG := Lib.hid hg
  have HM := Lib.hid hm
  have HV := Lib.hid (hv.below hb)
  obtain ⟨A, c, rfl, _, _, _⟩ := hv
  obtain ⟨tt, htt⟩ : ∃ tt, tabOk t = tt := ⟨_, rfl⟩
  have HT := Lib.hid htt
  have HNO := Lib.hid (show g = false → m = [] from fun h => by rw [← HM.out]; exact foldI_no (by rw [HG.out, h]))
  have HFP := Lib.hid (fold_parts t a b)
  clear hg hm hb htt
  go_enter Try.func23, Try.ntmps23
  go_wp2_with fail
  refine (iTGrid_is w t _ HV.out tt HT.out _ (Below.refl _ _)).mono ?_
  rintro e w1 ⟨rfl, b1⟩
  have hz1 := b1.size
  cases tt
  · rw [gridV_no]
    have HE := Lib.hid (show g = false by rw [← HG.out, HFP.out, HT.out]; rfl)
    have HO := Lib.hid (none_own (w := w) (w1 := w1) (o := .cells #[.int .i64 0, .int .i64 0, .slice none 0 0] TGI) hz1)
    have HBE := Lib.hid ((b1.alloc hz1 (.cells #[.int .i64 0, .int .i64 0, .slice none 0 0] TGI)).alloc (by simp; omega) (.cells #[] TI))
    go_wp2
    go_ret2
    exact ⟨.slice (some ⟨w1.heap.size + 1, 0, none⟩) 0 0, by rw [HE.out]; rfl, by rw [HNO.out HE.out]; exact HO.out, HBE.out⟩
  rw [gridV_yes]
  have ht := tab_iff.1 HT.out
  obtain ⟨q, hq⟩ : ∃ q, q = t.length := ⟨_, rfl⟩
  obtain ⟨d, hd⟩ : ∃ d, d = wd t := ⟨_, rfl⟩
  have hp : (1 ≤ q ∧ q ≤ 4) ∧ 1 ≤ d ∧ d ≤ 4 := by rw [hq, hd]; exact ⟨⟨ht.h1, ht.h4⟩, ht.w1, ht.w4⟩
  have HQ := Lib.hid hq
  have HD := Lib.hid hd
  rw [← hq] at HV ⊢
  rw [← hd]
  obtain ⟨wa, hwa, ba, hza, ka⟩ := one_blk w1 #[.int .i64 q, .int .i64 d, .slice A q c] TGI
  have HWa := Lib.hid hwa.symm
  have hba : Below w.heap.size w wa := b1.trans (ba.mono hz1)
  have hlt1 : w1.heap.size < wa.heap.size := by omega
  have HKA := Lib.hid (show ∀ X, Below wa.heap.size wa X → X.heap[w1.heap.size]? = some (.cells #[.int .i64 q, .int .i64 d, .slice A q c] TGI (0, 0)) from fun X h => (h.block _ hlt1).trans ka)
  have HFE := Lib.hid (show g = (!decide (b ≤ a) && ((decide (0 ≤ a) && decide (a < (q : Int))) && ((decide (0 ≤ b) && decide (b < (q : Int))) && tabOk (foldT t a.toNat b.toNat)))) by rw [← HG.out, HFP.out, HT.out, hq]; rfl)
  clear ht hq hd hwa hza ka
  obtain ⟨x0, x1, x2, _, _, _⟩ := blkG3 (HKA.out wa (Below.refl _ _))
  rw [← HWa.out] at x0 x1 x2
  by_cases h1 : b ≤ a
  · have HE := Lib.hid (show g = false by rw [HFE.out, decide_eq_true h1]; rfl)
    have HO := Lib.hid (show Mine (wa.alloc (.cells #[] TI)) w.heap.size (wa.alloc (.cells #[] TI)).heap.size (.slice (some ⟨wa.heap.size, 0, none⟩) 0 0) [] from (mine_new hba.size).up)
    have HBE := Lib.hid (hba.alloc hba.size (.cells #[] TI))
    have hwz : wa.heap.size = w1.heap.size + 1 := by rw [← HWa.out]; simp
    rw [hwz] at HO
    clear hwz
    go_wp2
    rw [HWa.out]
    go_ret2
    exact ⟨.slice (some ⟨w1.heap.size + 1, 0, none⟩) 0 0, by first | rfl | (rw [HE.out]; rfl), by rw [HNO.out HE.out]; exact HO.out, HBE.out⟩
  have h1' : ¬ b ≤ a := h1
  go_wp2_with fail
  rw [HWa.out]
  refine (iHasR_any q d a wa).mono ?_
  rintro e wb ⟨rfl, bb⟩
  have hbb : Below w.heap.size w wb := hba.trans (bb.mono hba.size)
  clear x0 x1 x2
  cases hA : (decide (0 ≤ a) && decide (a < (q : Int)))
  · have HE := Lib.hid (show g = false by rw [HFE.out, hA, Bool.false_and, Bool.and_false])
    clear hA
    have HO := Lib.hid (show Mine (wb.alloc (.cells #[] TI)) w.heap.size (wb.alloc (.cells #[] TI)).heap.size (.slice (some ⟨wb.heap.size, 0, none⟩) 0 0) [] from (mine_new hbb.size).up)
    have HBE := Lib.hid (hbb.alloc hbb.size (.cells #[] TI))
    go_wp2
    go_ret2
    exact ⟨.slice (some ⟨wb.heap.size, 0, none⟩) 0 0, by first | rfl | (rw [HE.out]; rfl), by rw [HNO.out HE.out]; exact HO.out, HBE.out⟩
  have HA := Lib.hid hA
  clear hA
  obtain ⟨x0, x1, x2, _, _, _⟩ := blkG3 (HKA.out wb bb)
  go_wp2_with fail
  refine (iHasR_any q d b wb).mono ?_
  rintro e wc ⟨rfl, bc⟩
  have hbc : Below w.heap.size w wc := hbb.trans (bc.mono hbb.size)
  have bac : Below wa.heap.size wa wc := bb.trans (bc.mono bb.size)
  clear x0 x1 x2
  cases hB : (decide (0 ≤ b) && decide (b < (q : Int)))
  · have HE := Lib.hid (show g = false by rw [HFE.out, HA.out, hB, Bool.false_and, Bool.and_false, Bool.and_false])
    clear hB
    have HO := Lib.hid (show Mine (wc.alloc (.cells #[] TI)) w.heap.size (wc.alloc (.cells #[] TI)).heap.size (.slice (some ⟨wc.heap.size, 0, none⟩) 0 0) [] from (mine_new hbc.size).up)
    have HBE := Lib.hid (hbc.alloc hbc.size (.cells #[] TI))
    go_wp2
    go_ret2
    exact ⟨.slice (some ⟨wc.heap.size, 0, none⟩) 0 0, by first | rfl | (rw [HE.out]; rfl), by rw [HNO.out HE.out]; exact HO.out, HBE.out⟩
  have hA2 := HA.out
  have hB2 := hB
  simp only [Bool.and_eq_true, decide_eq_true_eq] at hA2 hB2
  obtain ⟨i, hi⟩ : ∃ i : Nat, a = i := ⟨a.toNat, by omega⟩
  obtain ⟨j, hj⟩ : ∃ j : Nat, b = j := ⟨b.toNat, by omega⟩
  subst hi hj
  have hij : i < j := by omega
  have hjt : j < t.length := by have := HQ.out; omega
  have HGF := Lib.hid (show g = tabOk (foldT t i j) by
    rw [HFE.out, HA.out, hB, show decide ((j : Int) ≤ (i : Int)) = false from decide_eq_false (by omega)]; simp)
  have HMF := Lib.hid (show g = true → m = foldT t i j from fun h => by rw [← HM.out, foldI, if_pos (by rw [HG.out, h])]; simp)
  obtain ⟨x0, x1, x2, _, _, _⟩ := blkG3 (HKA.out wc bac)
  clear hA2 hB2 hB h1 h1'
  go_wp2_with fail
  refine (iFoldRows_is t HT.out i j hij hjt _ wc (HV.out.below hbc) q d HQ.out HD.out).mono ?_
  rintro e wd ⟨v2, rfl, ho2, b2⟩
  have hbd : Below w.heap.size w wd := hbc.trans (b2.mono hbc.size)
  clear x0 x1 x2
  go_wp2_with fail
  refine (iTab_is wd (foldT t i j) v2 ho2.is g HGF.out.symm wd (Below.refl _ _)).mono ?_
  rintro e we ⟨rfl, b3⟩
  have hbe : Below w.heap.size w we := hbd.trans (b3.mono hbd.size)
  cases g
  · have HE := Lib.hid (show false = false from rfl)
    have HO := Lib.hid (show Mine (we.alloc (.cells #[] TI)) w.heap.size (we.alloc (.cells #[] TI)).heap.size (.slice (some ⟨we.heap.size, 0, none⟩) 0 0) [] from (mine_new hbe.size).up)
    have HBE := Lib.hid (hbe.alloc hbe.size (.cells #[] TI))
    go_wp2
    go_ret2
    exact ⟨.slice (some ⟨we.heap.size, 0, none⟩) 0 0, by first | rfl | (rw [HE.out]; rfl), by rw [HNO.out HE.out]; exact HO.out, HBE.out⟩
  · have HO := Lib.hid (show Mine we w.heap.size we.heap.size v2 m by rw [HMF.out rfl]; exact ((ho2.below b3).lower hbc.size).up)
    have HBE := Lib.hid hbe
    clear ho2 b2 b3 hbe
    go_wp2
    go_ret2
    exact ⟨_, rfl, HO.out, HBE.out⟩
end Go.Proofs.Ytkdffgcmnanniaa
