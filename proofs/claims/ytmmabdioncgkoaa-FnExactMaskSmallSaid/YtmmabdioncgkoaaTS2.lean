/- Contracts of the model: tables filled cell by cell. -/
import Derived.Test.YtmmabdioncgkoaaTS1
namespace Go.Proofs.Ytmmabdioncgkoaa
open Go.RowKit
/-- A table by its cells. -/
def mat (h n : Nat) (f : Nat → Nat → Int) : Tb := (List.range h).map fun i => (List.range n).map (f i)
theorem mat_len (h n : Nat) (f : Nat → Nat → Int) : (mat h n f).length = h := by simp [mat]
theorem mat_row (h n : Nat) (f : Nat → Nat → Int) {i : Nat} (hi : i < h) : (mat h n f).getD i [] = (List.range n).map (f i) := by
  rw [getD_of _ _ (by rw [mat_len]; exact hi)]; simp [mat]
theorem mat_rlen (h n : Nat) (f : Nat → Nat → Int) {i : Nat} (hi : i < h) : ((mat h n f).getD i []).length = n := by rw [mat_row h n f hi]; simp
theorem mat_cell (h n : Nat) (f : Nat → Nat → Int) {i j : Nat} (hi : i < h) (hj : j < n) : ((mat h n f).getD i []).getD j 0 = f i j := by
  rw [mat_row h n f hi, getD_of _ _ (by simpa using hj)]; simp
theorem mat_ext {h n : Nat} {f g : Nat → Nat → Int} (e : ∀ i j, i < h → j < n → f i j = g i j) : mat h n f = mat h n g :=
  List.map_congr_left fun i hi => List.map_congr_left fun j hj => e i j (List.mem_range.1 hi) (List.mem_range.1 hj)
theorem mat_set (h n : Nat) (f : Nat → Nat → Int) {i j : Nat} (hi : i < h) (_hj : j < n) (x : Int) :
    (mat h n f).set i (((mat h n f).getD i []).set j x) = mat h n fun a b => if a = i ∧ b = j then x else f a b := by
  refine List.ext_getElem (by rw [List.length_set, mat_len, mat_len]) fun a ha _ => ?_
  rw [List.length_set, mat_len] at ha
  have e : (mat h n fun a b => if a = i ∧ b = j then x else f a b)[a]'(by rw [mat_len]; exact ha) = (List.range n).map fun b => if a = i ∧ b = j then x else f a b := by simp [mat]
  rw [e, List.getElem_set]
  by_cases hai : i = a
  · subst hai
    rw [if_pos rfl, mat_row h n f hi]
    refine List.ext_getElem (by simp) fun b hb _ => ?_
    rw [List.getElem_set]
    by_cases hbj : j = b
    · subst hbj; simp
    · rw [if_neg hbj]; simp; intro h; exact absurd h.symm hbj
  · rw [if_neg hai]
    have : ¬ a = i := fun h => hai h.symm
    simp [mat, this]
theorem zeros_mat (h n : Nat) : zeros h n = mat h n fun _ _ => 0 := by
  unfold zeros zrow mat
  rw [List.map_const', List.map_const', List.length_range, List.length_range]
theorem turn_mat (t : Tb) : turn t = mat (wd t) t.length fun j i => (t.getD i []).getD j 0 := by
  unfold turn mat
  refine List.map_congr_left fun j _ => List.ext_getElem (by rw [col_len]; simp) fun i h1 h2 => ?_
  rw [col_len] at h1
  rw [← getD_of (col t j) 0 (by rw [col_len]; exact h1), col_get t j h1]; simp
theorem tabOf_mat (l : List Pn) : tabOf l = mat 4 4 fun i j => cel l i j := rfl
theorem Own1.lower {T : TypeId} {w : World} {B B' : Nat} {v : Value} {cs : List Value} (h : Own1 T w B v cs) (hB : B' ≤ B) : Own1 T w B' v cs := h.less hB
theorem Mine.lower {w : World} {B B' T : Nat} {v : Value} {ll : List (List Int)} (h : Mine w B T v ll) (hB : B' ≤ B) : Mine w B' T v ll := by
  obtain ⟨hT, hv, hs, ho, hr⟩ := h
  exact ⟨hT, hv, hs, ho.less hB, hr.1, fun i hi => ⟨(hr.2.1 i hi).1.less hB, (hr.2.1 i hi).2⟩, hr.2.2⟩
theorem Mine.drewN {w : World} {B T : Nat} {v : Value} {ll : List (List Int)} (h : Mine w B T v ll) (n : Nat) : Mine (w.drewN n) B T v ll := h
/-- The cells of a table that came in. -/
theorem IsR.head {W : World} {q c : Nat} {A : Option Addr} {t : Tb} (h : IsR W (.slice A q c) t) : q = t.length ∧ t.length ≤ c ∧ c ≤ maxLen ∧ LL W W.heap.size A t := by
  obtain ⟨A', c', hv, h1, h2, h3⟩ := h
  injection hv with e1 e2 e3
  subst e1 e3
  exact ⟨e2, h1, h2, h3⟩
theorem LL.cell2 {W : World} {A : Option Addr} {t : Tb} (h : LL W W.heap.size A t) {i j : Nat} (hi : i < t.length) (hj : j < (t.getD i []).length) :
    ∃ b o b2 o2 c2, A = some ⟨b, o, none⟩ ∧ b < W.heap.size ∧ W.cell? ⟨b, o + i, none⟩ = some (.slice (some ⟨b2, o2, none⟩) (t.getD i []).length c2) ∧ (t.getD i []).length ≤ c2 ∧ b2 < W.heap.size ∧ W.cell? ⟨b2, o2 + j, none⟩ = some (.int .i64 ((t.getD i []).getD j 0)) := by
  obtain ⟨b, o, A1, c1, hA, hb, hc, hl, _, hr⟩ := h.at_ i hi
  obtain ⟨b2, o2, hA2, hb2, hc2⟩ := hr.int_ j hj
  subst hA2
  exact ⟨b, o, b2, o2, c1, hA, hb, hc, hl, hb2, hc2⟩
theorem tab_lens {t : Tb} (h : tabOk t = true) {i : Nat} (hi : i < t.length) : (t.getD i []).length = wd t := by
  rw [getD_of _ _ hi]; exact (tab_iff.1 h).len _ (List.getElem_mem hi)
/-- What has been turned when the cell (i, j) is next. -/
def turnTo (t : Tb) (i j : Nat) : Tb := mat (wd t) t.length fun a b => if b < i ∨ (b = i ∧ a < j) then (t.getD b []).getD a 0 else 0
theorem turnTo_start (t : Tb) : turnTo t 0 0 = zeros (wd t) t.length := by
  rw [zeros_mat, turnTo]
  exact mat_ext fun a b _ _ => by rw [if_neg (by omega)]
theorem turnTo_step (t : Tb) {i j : Nat} (hi : i < t.length) (hj : j < wd t) : (turnTo t i j).set j (((turnTo t i j).getD j []).set i ((t.getD i []).getD j 0)) = turnTo t i (j + 1) := by
  rw [turnTo, mat_set _ _ _ hj hi, turnTo]
  refine mat_ext fun a b _ _ => ?_
  by_cases h : a = j ∧ b = i
  · rw [if_pos h, if_pos (by omega), h.1, h.2]
  · rw [if_neg h]
    by_cases h2 : b < i ∨ (b = i ∧ a < j)
    · rw [if_pos h2, if_pos (by omega)]
    · rw [if_neg h2, if_neg (by omega)]
theorem turnTo_next (t : Tb) (i : Nat) : turnTo t i (wd t) = turnTo t (i + 1) 0 := by
  unfold turnTo
  exact mat_ext fun a b ha _ => by
    by_cases h : b < i + 1
    · rw [if_pos (by omega), if_pos (by omega)]
    · rw [if_neg (by omega), if_neg (by omega)]
theorem turnTo_end (t : Tb) : turnTo t t.length 0 = turn t := by
  rw [turn_mat, turnTo]
  exact mat_ext fun a b _ hb => by rw [if_pos (by omega)]
def turnI (t : Tb) : Tb := if tabOk t = true then turn t else []
set_option maxHeartbeats 2000000 in
theorem sTurn_is (W : World) (t : Tb) (v : Value) (hv : IsR W v t) (m : Tb) (g : Bool) (hm : turnI t = m) (hg : tabOk t = g) (w : World) (hb : Below W.heap.size W w) :
    Calls Try.prog 32 #[v] w (OutRT m g w) := by
  have HG := Lib.hid hg
  have HM := Lib.hid hm
  have hv0 := hv.below hb
  clear hv hb
  obtain ⟨A, c, rfl, a1, a2, a3⟩ := hv0
  obtain ⟨q, hq⟩ : ∃ q, q = t.length := ⟨_, rfl⟩
  have HV := Lib.hid (show IsR w (.slice A q c) t by rw [hq]; exact ⟨A, c, rfl, a1, a2, a3⟩)
  have HQ := Lib.hid hq
  have HR := Lib.hid a3
  rw [← hq]
  clear a1 a2 a3 hg hm hq
  go_enter Try.func32, Try.ntmps32
  go_wp2_with fail
  refine (sTab_is w t _ HV.out g HG.out _ (Below.refl _ _)).mono ?_
  rintro e w1 ⟨rfl, b1⟩
  have HB1 := Lib.hid b1
  have hz1 := b1.size
  cases g
  · have HE := Lib.hid (show m = [] by rw [← HM.out, turnI, HG.out]; rfl)
    have HO := Lib.hid (show Mine (w1.alloc (.cells #[] TI)) w.heap.size (w1.alloc (.cells #[] TI)).heap.size (.slice (some ⟨w1.heap.size, 0, none⟩) 0 0) [] from (mine_new hz1).up)
    have HB2 := Lib.hid (b1.alloc hz1 (.cells #[] TI))
    clear b1
    go_wp2
    go_ret2
    exact ⟨_, rfl, by rw [HE.out]; exact HO.out, HB2.out⟩
  have HE := Lib.hid (show m = turn t by rw [← HM.out, turnI, if_pos HG.out])
  have ht := tab_iff.1 HG.out
  have hq4 : 1 ≤ q ∧ q ≤ 4 := by rw [HQ.out]; exact ⟨ht.h1, ht.h4⟩
  obtain ⟨d, hd⟩ : ∃ d, d = wd t := ⟨_, rfl⟩
  have hd4 : 1 ≤ d ∧ d ≤ 4 := by rw [hd]; exact ⟨ht.w1, ht.w4⟩
  have HD := Lib.hid hd
  have HLN := Lib.hid (show ∀ i, i < q → (t.getD i []).length = d from fun i hi => by rw [hd]; exact tab_lens HG.out (by rw [← HQ.out]; exact hi))
  obtain ⟨b, o, A0, c0, rfl, hbW, hc, _, _, _⟩ := HR.out.at_ 0 (by rw [← HQ.out]; omega)
  rw [← wd_zero, ← hd, Nat.add_zero] at hc
  have e0 := (b1.cell (p := ⟨b, o, none⟩) hbW).trans hc
  clear hc ht hd b1
  go_wp2_with fail
  refine (sBlank_any d q (by omega) (by omega) w1).mono ?_
  rintro e w2 ⟨v2, rfl, ho2, h2⟩
  clear e0
  have HO := Lib.hid (show Mine w2 w1.heap.size w2.heap.size v2 (turnTo t 0 0) by rw [turnTo_start, ← HD.out, ← HQ.out]; exact ho2)
  have HB2 := Lib.hid (HB1.out.trans (h2.mono hz1))
  clear ho2 h2
  obtain ⟨T, hT⟩ : ∃ T, T = w2.heap.size := ⟨_, rfl⟩
  rw [← hT] at HO
  obtain ⟨g2, c2, hv2⟩ : ∃ g2 c2, v2 = .slice (some ⟨g2, 0, none⟩) d c2 := by
    obtain ⟨g2, c2, _, _, h, _⟩ := HO.out.cell (i := 0) (j := 0) (by rw [turnTo, mat_len, ← HD.out]; omega) (by rw [turnTo, mat_rlen _ _ _ (by rw [← HD.out]; omega), ← HQ.out]; omega)
    exact ⟨g2, c2, by rw [h, turnTo, mat_len, ← HD.out]⟩
  subst hv2
  have hz2 := HB2.out.size
  go_wp2
  go_loopw [5] (fun i wr => ∃ k : Nat, k ≤ q ∧ i = .int .i64 k ∧ Mine wr w1.heap.size T (.slice (some ⟨g2, 0, none⟩) d c2) (turnTo t k 0) ∧ Below w.heap.size w wr) (fun i _ => q - (intOf i).toNat)
  case atStart => exact ⟨0, Nat.zero_le _, rfl, HO.out, HB2.out⟩
  case round =>
    obtain ⟨k, hk, rfl, ho, hb⟩ := hrel
    clear HO HB2
    by_cases hlt : k < q
    · have hki : (k : Int) < (q : Int) := by omega
      have hkt : k < t.length := by rw [← HQ.out]; exact hlt
      have hlen := HLN.out k hlt
      have HO := Lib.hid ho
      have HB := Lib.hid hb
      clear ho hb
      go_wp2
      go_loopw [6] (fun j wr' => ∃ x : Nat, x ≤ d ∧ j = .int .i64 x ∧ Mine wr' w1.heap.size T (.slice (some ⟨g2, 0, none⟩) d c2) (turnTo t k x) ∧ Below w.heap.size w wr') (fun j _ => d - (intOf j).toNat)
      case atStart => exact ⟨0, Nat.zero_le _, rfl, HO.out, HB.out⟩
      case round =>
        obtain ⟨x, hx, rfl, ho, hb⟩ := hrel
        clear HO HB
        obtain ⟨b', o', A1, cc, hA, _, hc1, _, _, hr1⟩ := HR.out.at_ k hkt
        injection hA with hA
        injection hA with p1 p2 _
        subst p1 p2
        rw [hlen] at hc1
        have e1 := (hb.cell (p := ⟨b, o + k, none⟩) hbW).trans hc1
        by_cases hxd : x < d
        · have hxi : (x : Int) < (d : Int) := by omega
          obtain ⟨b2, o2, hA2, hb2, hc2⟩ := hr1.int_ x (by rw [hlen]; exact hxd)
          subst hA2
          have e2 := (hb.cell (p := ⟨b2, o2 + x, none⟩) hb2).trans hc2
          have hxw : x < wd t := by rw [← HD.out]; exact hxd
          obtain ⟨g', c', gi, ci, hv', k0, _, ⟨hgi, hgT⟩, _, k1, kf, hset⟩ := ho.cell (i := x) (j := k) (by rw [turnTo, mat_len]; exact hxw) (by rw [turnTo, mat_rlen _ _ _ hxw]; exact hkt)
          injection hv' with hv1 hv2 hv3
          injection hv1 with hv1
          injection hv1 with hv1 _ _
          subst hv1
          rw [show ((turnTo t k x).getD x []).length = q by rw [turnTo, mat_rlen _ _ _ hxw, HQ.out]] at k0
          have HSET := Lib.hid (show Mine (wr.setCell ⟨gi, k, none⟩ (.int .i64 ((t.getD k []).getD x 0))) w1.heap.size T (.slice (some ⟨g2, 0, none⟩) d c2) (turnTo t k (x + 1)) by rw [← turnTo_step t hkt hxw]; exact hset _)
          have HBS := Lib.hid (hb.setCell (p := ⟨gi, k, none⟩) (Nat.le_trans hz1 hgi) (.int .i64 ((t.getD k []).getD x 0)))
          obtain ⟨y, hy⟩ : ∃ y, (t.getD k []).getD x 0 = y := ⟨_, rfl⟩
          obtain ⟨z, hz⟩ : ∃ z, ((turnTo t k x).getD x []).getD k 0 = z := ⟨_, rfl⟩
          rw [hy] at e2 HSET HBS
          rw [hz] at k1
          clear hset ho hb hv2 hv3 hc1 hc2 hy hz hkt hxw
          go_wp2
          go_still_tail 13, (by kernel_rfl)
          change wpList _ _ _ _ _ wr.drew
          obtain ⟨X, hX⟩ : ∃ X, X = wr.drew := ⟨_, rfl⟩
          have kf' : X.frozen? ⟨gi, k, none⟩ = false := by rw [hX]; exact kf
          have k1' : X.cell? ⟨gi, k, none⟩ = some (.int .i64 z) := by rw [hX]; exact k1
          have HS2 := Lib.hid (show Mine (X.setCell ⟨gi, k, none⟩ (.int .i64 y)) w1.heap.size T (.slice (some ⟨g2, 0, none⟩) d c2) (turnTo t k (x + 1)) by rw [hX]; exact HSET.out)
          have HB2 := Lib.hid (show Below w.heap.size w (X.setCell ⟨gi, k, none⟩ (.int .i64 y)) by rw [hX]; exact ⟨HBS.out.os, HBS.out.tape, HBS.out.output, HBS.out.size, HBS.out.block⟩)
          rw [← hX]
          clear hX k0 k1 kf e1 e2 HSET HBS
          go_wp2
          go_roundw
          case rel => exact ⟨x + 1, by omega, by go_num, HS2.out, HB2.out⟩
          case measure => simp [intOf]; omega
        · have hxi : ¬ (x : Int) < (d : Int) := by omega
          have hxd2 : x = wd t := by rw [← HD.out]; omega
          rw [hxd2, turnTo_next] at ho
          have HO := Lib.hid ho
          have HB := Lib.hid hb
          clear ho hb
          go_wp2
          go_roundw
          case rel => exact ⟨k + 1, by omega, by go_num, HO.out, HB.out⟩
          case measure => simp [intOf]; omega
    · have hki : ¬ (k : Int) < (q : Int) := by omega
      have hkq : k = t.length := by rw [← HQ.out]; omega
      rw [hkq, turnTo_end, ← HE.out] at ho
      have HO := Lib.hid ((ho.lower hz1).up)
      have HB := Lib.hid hb
      clear ho hb
      go_wp2
      go_ret2
      exact ⟨_, rfl, HO.out, HB.out⟩
end Go.Proofs.Ytmmabdioncgkoaa
