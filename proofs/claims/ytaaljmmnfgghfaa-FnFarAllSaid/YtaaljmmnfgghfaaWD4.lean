/- Laws of chapter 5 with people and ladders of their own. -/
import Derived.Test.YtaaljmmnfgghfaaDI7
import Derived.Test.YtaaljmmnfgghfaaDS3
import Derived.Test.YtaaljmmnfgghfaaDM3
import Derived.Test.YtaaljmmnfgghfaaDD
import Derived.Test.YtaaljmmnfgghfaaA2
import Derived.Test.YtaaljmmnfgghfaaA4
import Derived.Test.YtaaljmmnfgghfaaE2
namespace Go.Proofs.Ytaaljmmnfgghfaa
open Go.RowKit
theorem isR_one (w : World) (t s : TypeId) : IsR ((w.alloc (.cells #[.int .i64 0, .int .i64 0, .int .i64 0, .int .i64 0] t)).alloc (.cells #[.slice (some ⟨w.heap.size, 0, none⟩) 4 4] s)) (.slice (some ⟨w.heap.size + 1, 0, none⟩) 1 1) oneL := by
  have h0 : ((w.alloc (.cells #[.int .i64 0, .int .i64 0, .int .i64 0, .int .i64 0] t)).alloc (.cells #[.slice (some ⟨w.heap.size, 0, none⟩) 4 4] s)).heap[w.heap.size]? = some (.cells #[.int .i64 0, .int .i64 0, .int .i64 0, .int .i64 0] t) := heap_alloc2_old w _ _
  have h1 : ((w.alloc (.cells #[.int .i64 0, .int .i64 0, .int .i64 0, .int .i64 0] t)).alloc (.cells #[.slice (some ⟨w.heap.size, 0, none⟩) 4 4] s)).heap[w.heap.size + 1]? = some (.cells #[.slice (some ⟨w.heap.size, 0, none⟩) 4 4] s) := heap_alloc2_new w _ _
  have hz : ((w.alloc (.cells #[.int .i64 0, .int .i64 0, .int .i64 0, .int .i64 0] t)).alloc (.cells #[.slice (some ⟨w.heap.size, 0, none⟩) 4 4] s)).heap.size = w.heap.size + 2 := by simp
  generalize (w.alloc (.cells #[.int .i64 0, .int .i64 0, .int .i64 0, .int .i64 0] t)).alloc (.cells #[.slice (some ⟨w.heap.size, 0, none⟩) 4 4] s) = V at *
  refine ⟨_, 1, rfl, by decide, by decide, [.slice (some ⟨w.heap.size, 0, none⟩) 4 4], rfl, .inr ⟨_, _, rfl, by omega, fun j u hj => ?_⟩, fun i hi => ?_⟩
  · rw [cell_of_row V _ _ _ _ _ h1]
    match j, hj with
    | 0, hj => simpa using hj
  · have : i = 0 := by simp [oneL] at hi; omega
    subst this
    refine ⟨_, 4, rfl, by decide, by decide, .inr ⟨_, _, rfl, by omega, fun j u hj => ?_⟩⟩
    rw [cell_of_row V _ _ _ _ _ h0]
    match j, hj with
    | 0, hj => simpa [oneL, icells] using hj
    | 1, hj => simpa [oneL, icells] using hj
    | 2, hj => simpa [oneL, icells] using hj
    | 3, hj => simpa [oneL, icells] using hj
theorem pcells_pay (l : List Pn) (k : Nat) (hk : k < l.length) (z : Int) : pcells (l.set k ⟨l[k].area, l[k].job, l[k].sex, z⟩) = (pcells l).set (k * 4 + 3) (.int .i64 z) := by
  induction l generalizing k with
  | nil => simp at hk
  | cons q l ih =>
    cases k with
    | zero => simp [pcells, Pn.cells]
    | succ k =>
      have h := ih k (by simpa using hk)
      have e0 : (k + 1) * 4 + 3 = (k * 4 + 3) + 4 := by omega
      simp only [pcells] at h
      simp only [List.set_cons_succ, pcells, List.flatMap_cons, Pn.cells, e0, List.cons_append, List.nil_append, List.getElem_cons_succ]
      rw [h]
theorem Own.setPay {w : World} {B g n c : Nat} {l : List Pn} (h : Own w B (.slice (some ⟨g, 0, none⟩) n c) l) (k : Nat) (hk : k < l.length) (z : Int) :
    Own (w.setCell ⟨g, k * 4 + 3, none⟩ (.int .i64 z)) B (.slice (some ⟨g, 0, none⟩) n c) (l.set k ⟨l[k].area, l[k].job, l[k].sex, z⟩) := by
  obtain ⟨h1, h2⟩ := h
  rcases h2 with ⟨hv, _⟩ | ⟨g', cap, cur, hv, hg, hh, hnc, hc, hsz, ht⟩
  · cases hv
  · have hgg : g' = g ∧ cap = c ∧ n = l.length := by
      injection hv with a1 a2 a3
      injection a1 with a1
      injection a1 with a1
      exact ⟨a1.symm, a3.symm, a2⟩
    obtain ⟨rfl, rfl, rfl⟩ := hgg
    refine ⟨by rw [pcells_length], .inr ⟨g', cap, cur.setIfInBounds (k * 4 + 3) (.int .i64 z), by rw [List.length_set], hg, ?_, by rw [List.length_set]; exact hnc, hc, by simpa using hsz, ?_⟩⟩
    · simp [World.setCell, Array.getElem?_modify, hh]
    · simp only [Array.toList_setIfInBounds, List.length_set, List.take_set]
      rw [ht, pcells_pay l k hk z]
/-- The pays of the first people are 0. -/
def np (l : List Pn) (j : Nat) : List Pn := noPay (l.take j) ++ l.drop j
theorem np_zero (l : List Pn) : np l 0 = l := rfl
theorem np_len (l : List Pn) (j : Nat) : (np l j).length = l.length := by unfold np; rw [List.length_append, noPay_len, List.length_take, List.length_drop]; omega
theorem np_all (l : List Pn) : np l l.length = noPay l := by unfold np; rw [List.take_length, List.drop_length, List.append_nil]
theorem np_get (l : List Pn) (j : Nat) (hj : j < l.length) : (np l j)[j]'(by rw [np_len]; exact hj) = l[j] := by
  have hl : (noPay (l.take j)).length = j := by rw [noPay_len, List.length_take]; omega
  unfold np
  rw [List.getElem_append_right (by omega)]
  simp [hl]
theorem np_set (l : List Pn) (j : Nat) (hj : j < l.length) : (np l j).set j ⟨l[j].area, l[j].job, l[j].sex, 0⟩ = np l (j + 1) := by
  have hl : (noPay (l.take j)).length = j := by rw [noPay_len, List.length_take]; omega
  have e : l.drop j = l[j] :: l.drop (j + 1) := List.drop_eq_getElem_cons hj
  unfold np
  rw [List.set_append_right _ _ (by omega), hl, Nat.sub_self, e, List.set_cons_zero, List.take_succ_eq_append_getElem hj]
  unfold noPay
  rw [List.map_append, List.append_assoc]; rfl
set_option maxHeartbeats 4000000 in
theorem w_DiverseOne (A : Option Addr) (n c : Nat) (hnc : n ≤ c) (hn : n ≤ maxLen) (w : World) (hb : Bytes w w.heap.size A n) :
    Calls Try.prog 4 #[.slice A n c] w fun e w' => e = .returned (.bool true) ∧ Below w.heap.size w w' := by
  have hn2 := hn
  unfold maxLen at hn2
  rcases (show 1048576 < n ∨ ¬ 1048576 < n by omega) with hbig | hbig
  · go_enter Try.func4, Try.ntmps4
    go_wp2
    go_ret
    exact ⟨rfl, Below.refl _ _⟩
  · go_enter Try.func4, Try.ntmps4
    go_wp2_with fail
    refine (dDivSize_any A n c hnc hn _ hb).mono ?_
    rintro e W ⟨l, v, ll, u, r, k, rfl, hv, hu, hl, hll, _, _, _, _, hbW⟩
    obtain ⟨W1, hW⟩ : ∃ W1, W1 = W.alloc (.cells #[.int .i64 r.area, .int .i64 r.job, .int .i64 r.sex] TRc) := ⟨_, rfl⟩
    have hb1 : Below W.heap.size W W1 := by rw [hW]; exact (Below.refl _ _).alloc (Nat.le_refl _) _
    have hzW : W.heap.size < W1.heap.size := by rw [hW]; simp
    have e0 : W1.cell? ⟨W.heap.size, 0, none⟩ = some (.int .i64 r.area) := by rw [hW]; simp [go_sem]
    have e1 : W1.cell? ⟨W.heap.size, 1, none⟩ = some (.int .i64 r.job) := by rw [hW]; simp [go_sem]
    have e2 : W1.cell? ⟨W.heap.size, 2, none⟩ = some (.int .i64 r.sex) := by rw [hW]; simp [go_sem]
    have HC := Lib.hid (show ∀ w', Below W1.heap.size W1 w' → w'.cell? ⟨W.heap.size, 0, none⟩ = some (.int .i64 r.area) ∧ w'.cell? ⟨W.heap.size, 1, none⟩ = some (.int .i64 r.job) ∧ w'.cell? ⟨W.heap.size, 2, none⟩ = some (.int .i64 r.sex) from
      fun w' h => ⟨(h.cell (p := ⟨W.heap.size, 0, none⟩) hzW).trans e0, (h.cell (p := ⟨W.heap.size, 1, none⟩) hzW).trans e1, (h.cell (p := ⟨W.heap.size, 2, none⟩) hzW).trans e2⟩)
    have HV := Lib.hid (hv.below hb1)
    have HU := Lib.hid (hu.below hb1)
    have HB := Lib.hid (hbW.trans (hb1.mono hbW.size))
    have b0 := Below.refl W1.heap.size W1
    clear e0 e1 e2 hv hu hbW hb hb1
    rcases (show dsize l ll r k < 0 ∨ 0 ≤ dsize l ll r k by omega) with hneg | hg0
    · have HG := Lib.hid (dsize_no hneg)
      clear hneg
      go_wp2_with fail
      rw [← hW]
      clear hW
      refine (iDSize_is W1 l _ HV.out ll _ HU.out r _ (-1) HG.out _ b0).mono ?_
      rintro e w1 ⟨rfl, b1⟩
      obtain ⟨c0, c1, c2⟩ := HC.out _ b1
      go_wp2_with fail
      refine (sDSize_is W1 l _ HV.out ll _ HU.out r _ (-1) HG.out _ b1).mono ?_
      rintro e w2 ⟨rfl, b2⟩
      go_wp2
      go_ret
      exact ⟨by first | rfl | exact retb (by simp) | exact retb (by simp; omega), HB.out.trans (b2.mono HB.out.size)⟩
    · obtain ⟨g, hg⟩ : ∃ g, dsize l ll r k = g := ⟨_, rfl⟩
      obtain ⟨f1, f2, f3⟩ := m_dOne hg0
      obtain ⟨_, j, hkj, hj⟩ := dsize_in hg0
      subst hkj
      rw [hg] at f3 hg0
      have H1 := Lib.hid f1; have H2 := Lib.hid f2; have HG := Lib.hid hg
      clear hg f1 f2
      obtain ⟨Au, cu, hu2, _, _, _⟩ := HU.out
      subst hu2
      obtain ⟨Av, cv, hv2, hd1, hd2, hrow1⟩ := HV.out
      subst hv2
      go_wp2_with fail
      rw [← hW]
      clear hW
      refine (iDSize_is W1 l _ HV.out ll _ HU.out r _ _ HG.out _ b0).mono ?_
      rintro e w1 ⟨rfl, b1⟩
      obtain ⟨c0, c1, c2⟩ := HC.out _ b1
      go_wp2_with fail
      refine (sDSize_is W1 l _ HV.out ll _ HU.out r _ _ HG.out _ b1).mono ?_
      rintro e w2 ⟨rfl, b2⟩
      clear c0 c1 c2
      obtain ⟨c0, c1, c2⟩ := HC.out _ b2
      clear c0 c1 c2
      have hrow2 : Row w2 w2.heap.size Av (pcells l) := (hrow1.below b2 (Nat.le_refl _)).more b2.size
      have o0 : Own (w2.alloc (.cells #[] TP)) w2.heap.size (.slice (some ⟨w2.heap.size, 0, none⟩) 0 0) [] := own_new w2 w2 (Below.refl _ _)
      have b0' : Below w2.heap.size w2 (w2.alloc (.cells #[] TP)) := (Below.refl _ _).alloc (Nat.le_refl _) _
      go_wp2_with (at_builtin
                   refine appP rfl (.tmp 41) (.tmp 42) rfl w2.heap.size (.slice (some ⟨w2.heap.size, 0, none⟩) 0 0) [] rfl o0 w2.heap.size Av l.length cv l rfl rfl (hrow2.below b0' (Nat.le_refl _)) (by simp; omega) b0'.size ?_
                   intro v3 w3 ho3 hg3)
      have hb3 : Below w2.heap.size w2 w3 := below_own b0' o0 hg3
      rw [List.nil_append] at ho3
      obtain ⟨g3, c3, hv3⟩ : ∃ g3 c3, v3 = .slice (some ⟨g3, 0, none⟩) l.length c3 := by
        rcases ho3.2 with ⟨_, h0⟩ | ⟨g', cap, cur, hv, _⟩
        · exact absurd h0 (by omega)
        · exact ⟨g', cap, hv⟩
      subst hv3
      have hg3z : w2.heap.size ≤ g3 := (World.ownsRow.lt ho3 g3 rfl).1
      obtain ⟨q, hq⟩ : ∃ q, l.length = q := ⟨_, rfl⟩
      have HQ := Lib.hid hq
      have HO := Lib.hid ho3
      have HB3 := Lib.hid hb3
      have HB2 := Lib.hid b2
      rw [hq] at HO HV hl hj ⊢
      clear ho3 hg3 hb3 o0 b0' hrow2 hq
      go_wp2
      go_loopw [10] (fun i wr => ∃ k : Nat, k ≤ q ∧ i = .int .i64 k ∧ Own wr w2.heap.size (.slice (some ⟨g3, 0, none⟩) q c3) (np l k) ∧ Below w2.heap.size w2 wr) (fun i _ => q - (intOf i).toNat)
      case atStart => exact ⟨0, Nat.zero_le _, rfl, HO.out, HB3.out⟩
      case round =>
        obtain ⟨k, hk, rfl, ho, hb⟩ := hrel
        clear HO HB3
        by_cases hlt : k < q
        · have hki : (k : Int) < (q : Int) := by omega
          have hkl : k < l.length := by rw [HQ.out]; exact hlt
          have hkn : k < (np l k).length := by rw [np_len]; exact hkl
          obtain ⟨_, _, _, d3, hfz⟩ := ho.cellAt k hkn
          have f3' := hfz (k * 4 + 3)
          have HS := Lib.hid (show Own (wr.setCell ⟨g3, k * 4 + 3, none⟩ (.int .i64 0)) w2.heap.size (.slice (some ⟨g3, 0, none⟩) q c3) (np l (k + 1)) by
            have h := ho.setPay k hkn 0
            rw [np_get l k hkl, np_set l k hkl] at h
            exact h)
          have HBS := Lib.hid (hb.setCell (p := ⟨g3, k * 4 + 3, none⟩) hg3z (.int .i64 0))
          clear hfz ho hb
          go_wp2
          go_roundw
          case rel => exact ⟨k + 1, by omega, by go_num, HS.out, HBS.out⟩
          case measure => simp [intOf]; omega
        · have hki : ¬ (k : Int) < (q : Int) := by omega
          have hkq : k = l.length := by rw [HQ.out]; omega
          rw [hkq, np_all] at ho
          have HY := Lib.hid (show IsP wr (.slice (some ⟨g3, 0, none⟩) q c3) (noPay l) by simpa using ho.isP')
          have hbr := HB2.out.trans (hb.mono HB2.out.size)
          have HUR := Lib.hid (HU.out.below hbr)
          obtain ⟨c0, c1, c2⟩ := HC.out _ hbr
          clear ho hkq
          go_wp2_with fail
          refine (iDSize_is wr (noPay l) _ HY.out ll _ HUR.out r j 1 H1.out _ (Below.refl _ _)).mono ?_
          rintro e w4 ⟨rfl, b4⟩
          have hb4 := hbr.trans (b4.mono hbr.size)
          clear c0 c1 c2
          obtain ⟨c0, c1, c2⟩ := HC.out _ hb4
          go_wp2_with fail
          refine (iDFar_is wr (noPay l) _ HY.out ll _ HUR.out r j 0 H2.out _ b4).mono ?_
          rintro e w5 ⟨rfl, b5⟩
          have hb5 := hbr.trans (b5.mono hbr.size)
          go_wp2
          go_ret
          exact ⟨by first | rfl | exact retb (by simp) | exact retb (by simp; omega), HB.out.trans (hb5.mono HB.out.size)⟩
set_option maxHeartbeats 4000000 in
theorem w_FarAll (A : Option Addr) (n c : Nat) (hnc : n ≤ c) (hn : n ≤ maxLen) (w : World) (hb : Bytes w w.heap.size A n) :
    Calls Try.prog 9 #[.slice A n c] w fun e w' => e = .returned (.bool true) ∧ Below w.heap.size w w' := by
  have hn2 := hn
  unfold maxLen at hn2
  rcases (show 1048576 < n ∨ ¬ 1048576 < n by omega) with hbig | hbig
  · go_enter Try.func9, Try.ntmps9
    go_wp2
    go_ret
    exact ⟨rfl, Below.refl _ _⟩
  · go_enter Try.func9, Try.ntmps9
    go_wp2_with fail
    refine (dDivFar_any A n c hnc hn _ hb).mono ?_
    rintro e W ⟨l, v, ll, u, r, k, rfl, hv, hu, hl, hll, _, _, _, _, hbW⟩
    obtain ⟨W1, hW⟩ : ∃ W1, W1 = W.alloc (.cells #[.int .i64 r.area, .int .i64 r.job, .int .i64 r.sex] TRc) := ⟨_, rfl⟩
    have hb1 : Below W.heap.size W W1 := by rw [hW]; exact (Below.refl _ _).alloc (Nat.le_refl _) _
    have hzW : W.heap.size < W1.heap.size := by rw [hW]; simp
    have e0 : W1.cell? ⟨W.heap.size, 0, none⟩ = some (.int .i64 r.area) := by rw [hW]; simp [go_sem]
    have e1 : W1.cell? ⟨W.heap.size, 1, none⟩ = some (.int .i64 r.job) := by rw [hW]; simp [go_sem]
    have e2 : W1.cell? ⟨W.heap.size, 2, none⟩ = some (.int .i64 r.sex) := by rw [hW]; simp [go_sem]
    have HC := Lib.hid (show ∀ w', Below W1.heap.size W1 w' → w'.cell? ⟨W.heap.size, 0, none⟩ = some (.int .i64 r.area) ∧ w'.cell? ⟨W.heap.size, 1, none⟩ = some (.int .i64 r.job) ∧ w'.cell? ⟨W.heap.size, 2, none⟩ = some (.int .i64 r.sex) from
      fun w' h => ⟨(h.cell (p := ⟨W.heap.size, 0, none⟩) hzW).trans e0, (h.cell (p := ⟨W.heap.size, 1, none⟩) hzW).trans e1, (h.cell (p := ⟨W.heap.size, 2, none⟩) hzW).trans e2⟩)
    have HV := Lib.hid (hv.below hb1)
    have HU := Lib.hid (hu.below hb1)
    have HB := Lib.hid (hbW.trans (hb1.mono hbW.size))
    have b0 := Below.refl W1.heap.size W1
    clear e0 e1 e2 hv hu hbW hb hb1
    rcases (show dfarI l ll r k < 0 ∨ 0 ≤ dfarI l ll r k by omega) with hneg | hg0
    · have HG := Lib.hid (dfarI_no hneg)
      clear hneg
      go_wp2_with fail
      rw [← hW]
      clear hW
      refine (iDFar_is W1 l _ HV.out ll _ HU.out r _ (-1) HG.out _ b0).mono ?_
      rintro e w1 ⟨rfl, b1⟩
      obtain ⟨c0, c1, c2⟩ := HC.out _ b1
      go_wp2_with fail
      refine (sDFar_is W1 l _ HV.out ll _ HU.out r _ (-1) HG.out _ b1).mono ?_
      rintro e w2 ⟨rfl, b2⟩
      go_wp2
      go_ret
      exact ⟨by first | rfl | exact retb (by simp) | exact retb (by simp; omega), HB.out.trans (b2.mono HB.out.size)⟩
    · obtain ⟨g, hg⟩ : ∃ g, dfarI l ll r k = g := ⟨_, rfl⟩
      obtain ⟨f1, f2⟩ := m_farAll hg0
      obtain ⟨S, hS⟩ : ∃ S, dsize l oneL oneR k = S := ⟨_, rfl⟩
      obtain ⟨T, hT⟩ : ∃ T, dsize l ll r k = T := ⟨_, rfl⟩
      rw [hS, hT] at f2
      rw [hg] at hg0
      have H1 := Lib.hid f1; have HS := Lib.hid hS; have HT := Lib.hid hT; have HG := Lib.hid hg
      clear hg f1 hS hT
      go_wp2_with fail
      rw [← hW]
      clear hW
      refine (iDFar_is W1 l _ HV.out ll _ HU.out r _ _ HG.out _ b0).mono ?_
      rintro e w1 ⟨rfl, b1⟩
      obtain ⟨c0, c1, c2⟩ := HC.out _ b1
      go_wp2_with fail
      refine (sDFar_is W1 l _ HV.out ll _ HU.out r _ _ HG.out _ b1).mono ?_
      rintro e w2 ⟨rfl, b2⟩
      clear c0 c1 c2
      obtain ⟨c0, c1, c2⟩ := HC.out _ b2
      clear c0 c1 c2
      go_wp2_with fail
      obtain ⟨W5, hW5⟩ : ∃ W5, W5 = ((w2.alloc (.cells #[.int .i64 0, .int .i64 0, .int .i64 0, .int .i64 0] TN)).alloc (.cells #[.slice (some ⟨w2.heap.size, 0, none⟩) 4 4] TI)) := ⟨_, rfl⟩
      have HONE := Lib.hid (show IsR W5 (.slice (some ⟨w2.heap.size + 1, 0, none⟩) 1 1) oneL by rw [hW5]; exact isR_one w2 _ _)
      have hb5 : Below w2.heap.size w2 W5 := by rw [hW5]; exact ((Below.refl _ _).alloc (Nat.le_refl _) _).alloc (by simp) _
      rw [← hW5]
      have b5 : Below W1.heap.size W1 W5 := b2.trans (hb5.mono b2.size)
      have HV5 := Lib.hid (HV.out.below b5)
      have HU5 := Lib.hid (HU.out.below b5)
      obtain ⟨c0, c1, c2⟩ := HC.out _ b5
      have hzx : W.heap.size < W5.heap.size := by have := b5.size; omega
      have HF := Lib.hid (show ∀ w' : World, Below W5.heap.size W5 w' → (Below W5.heap.size W5 w' ∧ w'.cell? ⟨W.heap.size, 0, none⟩ = some (.int .i64 r.area) ∧ w'.cell? ⟨W.heap.size, 1, none⟩ = some (.int .i64 r.job) ∧ w'.cell? ⟨W.heap.size, 2, none⟩ = some (.int .i64 r.sex)) from
        fun w' h => ⟨h, (h.cell (p := ⟨W.heap.size, 0, none⟩) hzx).trans c0, (h.cell (p := ⟨W.heap.size, 1, none⟩) hzx).trans c1, (h.cell (p := ⟨W.heap.size, 2, none⟩) hzx).trans c2⟩)
      have bd : Below W5.heap.size W5 W5.drew := (Below.refl _ _).drew
      generalize w2.heap.size = Q at *
      clear hW5 hb5 c0 c1 c2
      go_region_held3 (fun w' => Below W5.heap.size W5 w' ∧ w'.cell? ⟨W.heap.size, 0, none⟩ = some (.int .i64 r.area) ∧ w'.cell? ⟨W.heap.size, 1, none⟩ = some (.int .i64 r.job) ∧ w'.cell? ⟨W.heap.size, 2, none⟩ = some (.int .i64 r.sex))
        (first | exact HF.out _ (by assumption) | exact HF.out _ bd)
        (first
          | (go_at_call 17
             refine (iDFar_is W5 l _ HV5.out oneL _ HONE.out oneR _ 0 H1.out _ bd).mono ?_
             rintro e w6 ⟨rfl, b6⟩)
          | (go_at_call 14
             refine (iDSize_is W5 l _ HV5.out oneL _ HONE.out oneR _ S HS.out _ b6).mono ?_
             rintro e w7 ⟨rfl, b7⟩
             clear b6)
          | (go_at_call 14
             refine (iDSize_is W5 l _ HV5.out ll _ HU5.out r _ T HT.out _ b7).mono ?_
             rintro e w8 ⟨rfl, b8⟩))
      all_goals
        go_wp2
        go_ret
        exact ⟨by first | rfl | exact retb (by simp) | exact retb (by simp; omega), HB.out.trans ((b5.trans (b8.mono b5.size)).mono HB.out.size)⟩
end Go.Proofs.Ytaaljmmnfgghfaa
