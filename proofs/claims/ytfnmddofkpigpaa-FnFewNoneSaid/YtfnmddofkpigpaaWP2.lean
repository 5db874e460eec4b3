/- Walks of the laws of chapter 12: numbers in order, literals, zeros. -/
import Derived.Test.YtfnmddofkpigpaaWPB
import Derived.Test.YtfnmddofkpigpaaPL
namespace Go.Proofs.Ytfnmddofkpigpaa
open Go.RowKit
theorem below_lit {w w' : World} {o : Obj} (h : Below (w.alloc o).heap.size (w.alloc o) w') : Below w.heap.size w w' := below_app (h.mono (by simp))
theorem filt_take {l : List Int} {k : Nat} (hk : k < l.length) (z : Int) : (l.take (k + 1)).filter (fun x => decide (z < x)) = (l.take k).filter (fun x => decide (z < x)) ++ (if z < l.getD k 0 then [l.getD k 0] else []) := by
  rw [List.getD_eq_getElem?_getD, List.getElem?_eq_getElem hk, List.take_succ_eq_append_getElem hk, List.filter_append, List.filter_cons, List.filter_nil]
  by_cases h : z < l[k] <;> simp [h]
theorem filt_bd {l : List Int} (h : pOk l = true) (k : Nat) (z : Int) : 0 ≤ ((l.take k).filter fun x => decide (z < x)).sum ∧ ((l.take k).filter fun x => decide (z < x)).sum ≤ 2000000 ∧ ((l.take k).filter fun x => decide (z < x)).length ≤ 20 := by
  have h1 := List.length_filter_le (fun x => decide (z < x)) (l.take k)
  have h3 := (pOk_parts.1 h).1
  have h4 : (l.take k).length ≤ l.length := by rw [List.length_take]; omega
  have hb : Bd ((l.take k).filter fun x => decide (z < x)) := ⟨by omega, fun x hx => (pOk_parts.1 h).2 x (List.mem_of_mem_take (List.mem_filter.1 hx).1)⟩
  exact ⟨hb.sum.1, hb.sum.2, hb.1⟩
theorem zero_list {w w1 : World} {q : Nat} {g : Nat} (h : w1.ownsRow w.heap.size TN 1 (.slice (some ⟨g, 0, none⟩) q q) q (madeCells (Value.int IntKind.i64 0).cells (q * 1)).toList) : IsI w1 (.slice (some ⟨g, 0, none⟩) q q) (List.replicate q 0) := by
  have e : (Value.int IntKind.i64 0).cells = #[.int .i64 0] := rfl
  rw [e, made_one] at h
  have e2 : List.replicate q (Value.int IntKind.i64 0) = icells (List.replicate q 0) := by simp [icells]
  rw [e2] at h
  have h2 : Own1 TN w1 w.heap.size (.slice (some ⟨g, 0, none⟩) q q) (icells (List.replicate q 0)) := by
    unfold Own1; rw [icells_len, List.length_replicate]; exact h
  exact h2.isI
set_option maxHeartbeats 2000000 in
theorem w_TopSorted (A : Option Addr) (n c : Nat) (hnc : n ≤ c) (hn : n ≤ maxLen) (w : World) (hb : Bytes w w.heap.size A n) :
    Calls Try.prog 7 #[.slice A n c] w fun e w' => e = .returned (.bool true) ∧ Below w.heap.size w w' := by
  have hn2 := hn
  unfold maxLen at hn2
  rcases (show 1048576 < n ∨ ¬ 1048576 < n by omega) with hbig | hbig
  · go_enter Try.func7, Try.ntmps7
    go_wp2
    go_ret
    exact ⟨rfl, Below.refl _ _⟩
  · go_enter Try.func7, Try.ntmps7
    go_wp2_with fail
    refine (dPartsTop_any A n c hnc hn _ hb).mono ?_
    rintro e W ⟨v, l, x, rfl, hv, hl, hx, hbW⟩
    obtain ⟨Av, cv, hvv⟩ := hv.sl
    obtain ⟨q, hq⟩ : ∃ q, q = l.length := ⟨_, rfl⟩
    rw [← hq] at hvv
    subst hvv
    obtain ⟨hrow, hql, hqc, hcm⟩ := hv.row
    clear hrow hql
    unfold maxLen at hcm
    have hq21 : q ≤ 21 := by rw [hq]; exact hl.1
    have HV := Lib.hid hv
    have HQ := Lib.hid hq
    have HSB := Lib.hid hl.sum
    have HLN := Lib.hid hl.1
    have HB := Lib.hid hbW
    clear hv hl hbW hq hb
    obtain ⟨g, hg⟩ : ∃ g, topI l x = g := ⟨_, rfl⟩
    have HG := Lib.hid hg
    rcases (show g < 0 ∨ 0 ≤ g by omega) with hneg | hg0
    · clear hg
      go_wp2_with (first
        | (go_at_call 17; (with_reducible refine (iPartsTop_is _ l _ HV.out x _ HG.out _ (Below.refl _ _)).mono ?_); rintro e w' ⟨rfl, hqq⟩; (try replace HV := Lib.hid (HV.out.below hqq)); replace HB := Lib.hid (HB.out.trans (hqq.mono HB.out.size)); (try replace HX := Lib.hid (HX.out.below hqq)); (try replace HY := Lib.hid (HY.out.below hqq)); clear hqq)
        | (go_at_call 18; (with_reducible refine (sTop_is _ l _ HV.out x _ HG.out _ (Below.refl _ _)).mono ?_); rintro e w' ⟨rfl, hqq⟩; (try replace HV := Lib.hid (HV.out.below hqq)); replace HB := Lib.hid (HB.out.trans (hqq.mono HB.out.size)); (try replace HX := Lib.hid (HX.out.below hqq)); (try replace HY := Lib.hid (HY.out.below hqq)); clear hqq))
      all_goals first
        | (exfalso; omega)
        | (go_ret; exact ⟨by first | rfl | exact retb (by simp) | exact retb (by simp; omega), HB.out⟩)
    · obtain ⟨hok, hx0⟩ := topI_inv (l := l) (n := x) (by rw [hg]; exact hg0)
      have HOK := Lib.hid hok
      have hgb := topI_bd hok hx0
      rw [hg] at hgb
      clear hg
      have h1 := top_succ hok hx0
      rw [HG.out] at h1
      have hnb := nth_bd hok x.toNat
      obtain ⟨z, hz⟩ : ∃ z, nth l x.toNat = z := ⟨_, rfl⟩
      have hso := sort_over hok hx0
      rw [hz] at h1 hnb hso
      rw [HG.out] at hso
      have HA := Lib.hid h1
      have HSO := Lib.hid hso
      clear h1 hz hso hok
      go_wp2_with (first
        | (go_at_call 17; (with_reducible refine (iPartsTop_is _ l _ HV.out x _ HG.out _ (Below.refl _ _)).mono ?_); rintro e w' ⟨rfl, hqq⟩; (try replace HV := Lib.hid (HV.out.below hqq)); replace HB := Lib.hid (HB.out.trans (hqq.mono HB.out.size)); (try replace HX := Lib.hid (HX.out.below hqq)); (try replace HY := Lib.hid (HY.out.below hqq)); clear hqq)
        | (go_at_call 18; (with_reducible refine (sTop_is _ l _ HV.out x _ HG.out _ (Below.refl _ _)).mono ?_); rintro e w' ⟨rfl, hqq⟩; (try replace HV := Lib.hid (HV.out.below hqq)); replace HB := Lib.hid (HB.out.trans (hqq.mono HB.out.size)); (try replace HX := Lib.hid (HX.out.below hqq)); (try replace HY := Lib.hid (HY.out.below hqq)); clear hqq)
        | (go_at_call 17; (with_reducible refine (iPartsTop_is _ l _ HV.out (x + 1) _ HA.out _ (Below.refl _ _)).mono ?_); rintro e w' ⟨rfl, hqq⟩; (try replace HV := Lib.hid (HV.out.below hqq)); replace HB := Lib.hid (HB.out.trans (hqq.mono HB.out.size)); (try replace HX := Lib.hid (HX.out.below hqq)); (try replace HY := Lib.hid (HY.out.below hqq)); clear hqq))
      obtain ⟨w5, hw5⟩ : ∃ w5, w5 = w' := ⟨_, rfl⟩
      subst hw5
      have HR := Lib.hid HV.out.row.1
      go_loopw [8, 9, 10] (fun s j i wr => ∃ k : Nat, k ≤ q ∧ i = .int .i64 k ∧ s = .int .i64 ((l.take k).filter fun x => decide (z < x)).sum ∧ j = .int .i64 (((l.take k).filter fun x => decide (z < x)).length : Nat) ∧ wr = w5) (fun _ _ i _ => q - (intOf i).toNat)
      case atStart => exact ⟨0, Nat.zero_le _, rfl, by rw [List.take_zero]; rfl, by rw [List.take_zero]; rfl, rfl⟩
      case round =>
        obtain ⟨k, hk, rfl, rfl, rfl, rfl⟩ := hrel
        by_cases hlt : k < q
        · have hki : (k : Int) < (q : Int) := by omega
          have hkl : k < l.length := by rw [← HQ.out]; exact hlt
          obtain ⟨b, o, rfl, _, c0⟩ := HR.out.int_ k hkl
          have hfb := filt_bd HOK.out k z
          have hyb := (pOk_parts.1 HOK.out).2 (l.getD k 0) (by rw [List.getD_eq_getElem?_getD, List.getElem?_eq_getElem hkl]; exact List.getElem_mem _)
          have HFT := Lib.hid (filt_take hkl z)
          clear hkl
          obtain ⟨f, hf⟩ : ∃ f, (l.take k).filter (fun x => decide (z < x)) = f := ⟨_, rfl⟩
          obtain ⟨y, hy⟩ : ∃ y, l.getD k 0 = y := ⟨_, rfl⟩
          rw [hf] at hfb HFT ⊢
          rw [hy] at hyb HFT c0
          obtain ⟨s, hs⟩ : ∃ s, f.sum = s := ⟨_, rfl⟩
          obtain ⟨j, hj⟩ : ∃ j, f.length = j := ⟨_, rfl⟩
          rw [hs, hj] at hfb ⊢
          have HS := Lib.hid hs
          have HJ := Lib.hid hj
          clear hf hy hs hj
          by_cases hzy : z < y
          · have HE := Lib.hid (show (l.take (k + 1)).filter (fun x => decide (z < x)) = f ++ [y] by rw [HFT.out, if_pos hzy])
            go_wp2
            go_roundw
            case rel => exact ⟨k + 1, by omega, by go_num, by rw [HE.out, sum_app, HS.out]; simp, by rw [HE.out, List.length_append, HJ.out]; rfl, trivial⟩
            case measure => simp [intOf]; omega
          · have HE := Lib.hid (show (l.take (k + 1)).filter (fun x => decide (z < x)) = f by rw [HFT.out, if_neg hzy, List.append_nil])
            go_wp2
            go_roundw
            case rel => exact ⟨k + 1, by omega, by go_num, by rw [HE.out, HS.out], by rw [HE.out, HJ.out], trivial⟩
            case measure => simp [intOf]; omega
        · have HE := Lib.hid (show l.take k = l by rw [List.take_of_length_le (by rw [← HQ.out]; omega)])
          rw [HE.out]
          obtain ⟨hs1, hs2⟩ := HSO.out
          generalize (l.filter fun x => decide (z < x)).sum = s at *
          generalize (l.filter fun x => decide (z < x)).length = j at *
          go_wp2
          go_ret
          exact ⟨by first | rfl | exact retb (by simp) | exact retb (by simp; omega), HB.out⟩
set_option maxHeartbeats 2000000 in
theorem w_GuessTwo (A : Option Addr) (n c : Nat) (hnc : n ≤ c) (hn : n ≤ maxLen) (A2 : Option Addr) (m c2 : Nat) (_hmc : m ≤ c2) (hm : m ≤ maxLen) (w : World) (hb : Bytes w w.heap.size A n) (_hb2 : Bytes w w.heap.size A2 m) :
    Calls Try.prog 10 #[.slice A n c, .slice A2 m c2] w fun e w' => e = .returned (.bool true) ∧ Below w.heap.size w w' := by
  have hn2 := hn
  have hm2 := hm
  unfold maxLen at hn2 hm2
  rcases (show 1048576 < n ∨ (¬ 1048576 < n ∧ 1048576 < m) ∨ ¬ 1048576 < n ∧ ¬ 1048576 < m by omega) with hbig | ⟨hbig, hbig2⟩ | ⟨hbig, hbig2⟩
  · go_enter Try.func10, Try.ntmps10
    go_wp2
    go_ret
    exact ⟨rfl, Below.refl _ _⟩
  · go_enter Try.func10, Try.ntmps10
    go_wp2
    go_ret
    exact ⟨rfl, Below.refl _ _⟩
  · go_enter Try.func10, Try.ntmps10
    go_wp2_with fail
    refine (dPartsTop_any A n c hnc hn _ hb).mono ?_
    rintro e W ⟨v, l, x, rfl, hv, hl, hx, hbW⟩
    obtain ⟨Av, cv, hvv⟩ := hv.sl
    obtain ⟨q, hq⟩ : ∃ q, q = l.length := ⟨_, rfl⟩
    rw [← hq] at hvv
    subst hvv
    obtain ⟨hrow, hql, hqc, hcm⟩ := hv.row
    clear hrow hql
    unfold maxLen at hcm
    have hq21 : q ≤ 21 := by rw [hq]; exact hl.1
    have HV := Lib.hid hv
    have HQ := Lib.hid hq
    have HSB := Lib.hid hl.sum
    have HLN := Lib.hid hl.1
    have HB := Lib.hid hbW
    clear hv hl hbW hq hb
    obtain ⟨g, hg⟩ : ∃ g, topI l x = g := ⟨_, rfl⟩
    have HG := Lib.hid hg
    rcases (show g < 0 ∨ 0 ≤ g by omega) with hneg | hg0
    · clear hg
      go_wp2_with (first
        | (go_at_call 17; (with_reducible refine (iPartsTop_is _ l _ HV.out x _ HG.out _ (Below.refl _ _)).mono ?_); rintro e w' ⟨rfl, hqq⟩; (try replace HV := Lib.hid (HV.out.below hqq)); replace HB := Lib.hid (HB.out.trans (hqq.mono HB.out.size)); (try replace HX := Lib.hid (HX.out.below hqq)); (try replace HY := Lib.hid (HY.out.below hqq)); clear hqq)
        | (go_at_call 18; (with_reducible refine (sTop_is _ l _ HV.out x _ HG.out _ (Below.refl _ _)).mono ?_); rintro e w' ⟨rfl, hqq⟩; (try replace HV := Lib.hid (HV.out.below hqq)); replace HB := Lib.hid (HB.out.trans (hqq.mono HB.out.size)); (try replace HX := Lib.hid (HX.out.below hqq)); (try replace HY := Lib.hid (HY.out.below hqq)); clear hqq))
      all_goals first
        | (exfalso; omega)
        | (go_ret; exact ⟨by first | rfl | exact retb (by simp) | exact retb (by simp; omega), HB.out⟩)
    · obtain ⟨hok, hx0⟩ := topI_inv (l := l) (n := x) (by rw [hg]; exact hg0)
      have HOK := Lib.hid hok
      have hgb := topI_bd hok hx0
      rw [hg] at hgb
      clear hg
      obtain ⟨r1, h1⟩ : ∃ r1, (m : Int) % 300 = r1 := ⟨_, rfl⟩
      obtain ⟨r2, h2⟩ : ∃ r2, (m : Int) % 7 = r2 := ⟨_, rfl⟩
      obtain ⟨r3, h3⟩ : ∃ r3, (m : Int) % 100 = r3 := ⟨_, rfl⟩
      have b1 : 0 ≤ r1 ∧ r1 ≤ 299 := by omega
      have b2 : 0 ≤ r2 ∧ r2 ≤ 6 := by omega
      have b3 : 0 ≤ r3 ∧ r3 ≤ 99 := by omega
      have hgt := guess_two (a := 1 + r1) (b := r2 * 10) (pc := 1 + r3) (by omega) (by omega) (by omega) (by omega) (by omega) (by omega)
      have hlt := lead_two (a := 1 + r1) (b := r2 * 10) (pc := r3) (by omega) (by omega) (by omega) (by omega) (by omega) (by omega)
      have G1 := Lib.hid hgt.1
      have G2 := Lib.hid hgt.2
      have G3 := Lib.hid hlt
      clear hgt hlt hok
      go_wp2_with (first
        | (go_at_call 17; (with_reducible refine (iPartsTop_is _ l _ HV.out x _ HG.out _ (Below.refl _ _)).mono ?_); rintro e w' ⟨rfl, hqq⟩; (try replace HV := Lib.hid (HV.out.below hqq)); replace HB := Lib.hid (HB.out.trans (hqq.mono HB.out.size)); (try replace HX := Lib.hid (HX.out.below hqq)); (try replace HY := Lib.hid (HY.out.below hqq)); clear hqq)
        | (go_at_call 18; (with_reducible refine (sTop_is _ l _ HV.out x _ HG.out _ (Below.refl _ _)).mono ?_); rintro e w' ⟨rfl, hqq⟩; (try replace HV := Lib.hid (HV.out.below hqq)); replace HB := Lib.hid (HB.out.trans (hqq.mono HB.out.size)); (try replace HX := Lib.hid (HX.out.below hqq)); (try replace HY := Lib.hid (HY.out.below hqq)); clear hqq)
        | (go_at_call 23; (with_reducible refine (iPartsGuess_is _ [1 + r1, r2 * 10] _ (lit2 _ _ _) (1 + r3) _ G1.out _ (Below.refl _ _)).mono ?_); rintro e w' ⟨rfl, hqq⟩; replace hqq := below_lit hqq; (try replace HV := Lib.hid (HV.out.below hqq)); replace HB := Lib.hid (HB.out.trans (hqq.mono HB.out.size)); (try replace HX := Lib.hid (HX.out.below hqq)); (try replace HY := Lib.hid (HY.out.below hqq)); clear hqq)
        | (go_at_call 23; (with_reducible refine (iPartsGuess_is _ [1 + r1] _ (lit1 _ _) 1 _ G2.out _ (Below.refl _ _)).mono ?_); rintro e w' ⟨rfl, hqq⟩; replace hqq := below_lit hqq; (try replace HV := Lib.hid (HV.out.below hqq)); replace HB := Lib.hid (HB.out.trans (hqq.mono HB.out.size)); (try replace HX := Lib.hid (HX.out.below hqq)); (try replace HY := Lib.hid (HY.out.below hqq)); clear hqq)
        | (go_at_call 24; (with_reducible refine (iPartsLead_is _ [r2 * 10, 1 + r1] _ (lit2 _ _ _) 2 r3 _ G3.out _ (Below.refl _ _)).mono ?_); rintro e w' ⟨rfl, hqq⟩; replace hqq := below_lit hqq; (try replace HV := Lib.hid (HV.out.below hqq)); replace HB := Lib.hid (HB.out.trans (hqq.mono HB.out.size)); (try replace HX := Lib.hid (HX.out.below hqq)); (try replace HY := Lib.hid (HY.out.below hqq)); clear hqq))
      all_goals first
        | (exfalso; omega)
        | (go_ret; exact ⟨by first | rfl | exact retb (by simp) | exact retb (by simp; omega), HB.out⟩)
set_option maxHeartbeats 2000000 in
theorem w_FewNone (A : Option Addr) (n c : Nat) (hnc : n ≤ c) (hn : n ≤ maxLen) (A2 : Option Addr) (m c2 : Nat) (_hmc : m ≤ c2) (hm : m ≤ maxLen) (w : World) (hb : Bytes w w.heap.size A n) (_hb2 : Bytes w w.heap.size A2 m) :
    Calls Try.prog 11 #[.slice A n c, .slice A2 m c2] w fun e w' => e = .returned (.bool true) ∧ Below w.heap.size w w' := by
  have hn2 := hn
  have hm2 := hm
  unfold maxLen at hn2 hm2
  rcases (show 1048576 < n ∨ (¬ 1048576 < n ∧ 1048576 < m) ∨ ¬ 1048576 < n ∧ ¬ 1048576 < m by omega) with hbig | ⟨hbig, hbig2⟩ | ⟨hbig, hbig2⟩
  · go_enter Try.func11, Try.ntmps11
    go_wp2
    go_ret
    exact ⟨rfl, Below.refl _ _⟩
  · go_enter Try.func11, Try.ntmps11
    go_wp2
    go_ret
    exact ⟨rfl, Below.refl _ _⟩
  · go_enter Try.func11, Try.ntmps11
    go_wp2_with fail
    refine (dPartsValid_any A n c hnc hn _ hb).mono ?_
    rintro e W ⟨v, l, rfl, hv, hl, hbW⟩
    obtain ⟨Av, cv, hvv⟩ := hv.sl
    obtain ⟨q, hq⟩ : ∃ q, q = l.length := ⟨_, rfl⟩
    rw [← hq] at hvv
    subst hvv
    obtain ⟨hrow, hql, hqc, hcm⟩ := hv.row
    clear hrow hql
    unfold maxLen at hcm
    have hq21 : q ≤ 21 := by rw [hq]; exact hl.1
    have HV := Lib.hid hv
    have HQ := Lib.hid hq
    have HSB := Lib.hid hl.sum
    have HLN := Lib.hid hl.1
    have HB := Lib.hid hbW
    clear hv hl hbW hq hb
    cases hg : pOk l
    · have HG := Lib.hid hg
      clear hg
      go_wp2_with (first
        | (go_at_call 14; (with_reducible refine (iPV_any l _ _ HV.out _ HG.out).mono ?_); rintro e w' ⟨rfl, rfl⟩)
        | (go_at_call 15; (with_reducible refine (sPV_any l _ _ HV.out _ HG.out).mono ?_); rintro e w' ⟨rfl, rfl⟩))
      all_goals first
        | (exfalso; omega)
        | (go_ret; exact ⟨by first | rfl | exact retb (by simp) | exact retb (by simp; omega), HB.out⟩)
    · have HG := Lib.hid hg
      have hq20 : q ≤ 20 := by rw [HQ.out]; exact (pOk_parts.1 hg).1
      obtain ⟨r, hr⟩ : ∃ r, (m : Int) % 101 = r := ⟨_, rfl⟩
      have b1 : 0 ≤ r ∧ r ≤ 100 := by omega
      have F1 := Lib.hid (few_zero q 3)
      have F2 := Lib.hid (lead_zero (q := q) 2 r)
      have F3 := Lib.hid (guess_zero (q := q) r)
      have F4 := Lib.hid (spare_zero hq20 b1.1 b1.2)
      clear hg
      obtain ⟨i0, hi0, hz0, hs0, hs1⟩ := info_parts (P := Try.prog) (e := TN) (z := .int .i64 0) (size := 1) (bytes := 8) (by kernel_rfl)
      go_wp2_with (first
        | (go_at_call 14; (with_reducible refine (iPV_any l _ _ HV.out _ HG.out).mono ?_); rintro e w' ⟨rfl, rfl⟩)
        | (go_at_call 15; (with_reducible refine (sPV_any l _ _ HV.out _ HG.out).mono ?_); rintro e w' ⟨rfl, rfl⟩)
        | (at_make; go_loud (refine wpList_make_full _ rfl _ _ TI rfl W.heap.size TN i0 (.int .i64 0) 1 Try.underlying23 hi0 hz0 hs0 _ _ _ _ q rfl rfl rfl rfl (by rw [hs1]; omega) (by simp only [maxLen]; omega) (Nat.le_refl _) ?_); intro w1 ho hgr))
      have HX := Lib.hid (zero_list ho)
      have hqq : Below W.heap.size W w1 := (Below.refl _ _).grown hgr (Nat.le_refl _) (fun k hk => by cases hk)
      clear ho hgr
      (try replace HV := Lib.hid (HV.out.below hqq)); replace HB := Lib.hid (HB.out.trans (hqq.mono HB.out.size)); (try replace HY := Lib.hid (HY.out.below hqq)); clear hqq
      go_wp2_with (first
        | (go_at_call 21; (with_reducible refine (iPartsFew_is _ _ _ HX.out 3 _ F1.out _ (Below.refl _ _)).mono ?_); rintro e w' ⟨rfl, hqq⟩; (try replace HV := Lib.hid (HV.out.below hqq)); replace HB := Lib.hid (HB.out.trans (hqq.mono HB.out.size)); (try replace HX := Lib.hid (HX.out.below hqq)); (try replace HY := Lib.hid (HY.out.below hqq)); clear hqq)
        | (go_at_call 24; (with_reducible refine (iPartsLead_is _ _ _ HX.out 2 r _ F2.out _ (Below.refl _ _)).mono ?_); rintro e w' ⟨rfl, hqq⟩; (try replace HV := Lib.hid (HV.out.below hqq)); replace HB := Lib.hid (HB.out.trans (hqq.mono HB.out.size)); (try replace HX := Lib.hid (HX.out.below hqq)); (try replace HY := Lib.hid (HY.out.below hqq)); clear hqq)
        | (go_at_call 23; (with_reducible refine (iPartsGuess_is _ _ _ HX.out r _ F3.out _ (Below.refl _ _)).mono ?_); rintro e w' ⟨rfl, hqq⟩; (try replace HV := Lib.hid (HV.out.below hqq)); replace HB := Lib.hid (HB.out.trans (hqq.mono HB.out.size)); (try replace HX := Lib.hid (HX.out.below hqq)); (try replace HY := Lib.hid (HY.out.below hqq)); clear hqq)
        | (go_at_call 25; (with_reducible refine (iPartsSpare_is _ _ _ HX.out r _ F4.out _ (Below.refl _ _)).mono ?_); rintro e w' ⟨rfl, hqq⟩; (try replace HV := Lib.hid (HV.out.below hqq)); replace HB := Lib.hid (HB.out.trans (hqq.mono HB.out.size)); (try replace HX := Lib.hid (HX.out.below hqq)); (try replace HY := Lib.hid (HY.out.below hqq)); clear hqq))
      all_goals first
        | (exfalso; omega)
        | (go_ret; exact ⟨by first | rfl | exact retb (by simp) | exact retb (by simp; omega), HB.out⟩)
end Go.Proofs.Ytfnmddofkpigpaa
