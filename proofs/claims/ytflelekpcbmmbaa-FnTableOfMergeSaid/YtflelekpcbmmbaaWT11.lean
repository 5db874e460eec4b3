/- Merged areas have folded rows. -/
import Derived.Test.YtflelekpcbmmbaaTI
import Derived.Test.YtflelekpcbmmbaaTL4
import Derived.Test.YtflelekpcbmmbaaTD3
import Derived.Test.YtflelekpcbmmbaaA2
import Derived.Test.YtflelekpcbmmbaaA4
import Derived.Deep.RegionHeld3
namespace Go.Proofs.Ytflelekpcbmmbaa
open Go.RowKit
theorem Own.cellAt {w : World} {B g n c : Nat} {l : List Pn} (h : Own w B (.slice (some ⟨g, 0, none⟩) n c) l) (k : Nat) (hk : k < l.length) :
    w.cell? ⟨g, k * 4, none⟩ = some (.int .i64 l[k].area) ∧ w.cell? ⟨g, k * 4 + 1, none⟩ = some (.int .i64 l[k].job) ∧ w.cell? ⟨g, k * 4 + 2, none⟩ = some (.int .i64 l[k].sex) ∧ w.cell? ⟨g, k * 4 + 3, none⟩ = some (.int .i64 l[k].pay) ∧ ∀ o, w.frozen? ⟨g, o, none⟩ = false := by
  obtain ⟨b, o, hA, _, c0, c1, c2, c3⟩ := (Own.row h).at_ k hk
  injection hA with hA
  injection hA with h1 h2 _
  subst h1 h2
  refine ⟨by simpa using c0, by simpa using c1, by simpa using c2, by simpa using c3, fun o => ?_⟩
  rcases h.2 with ⟨hv, _⟩ | ⟨g', cap, cur, hv, _, hh, _⟩
  · cases hv
  · injection hv with hv
    injection hv with hv
    injection hv with hv
    subst hv
    exact frozen_of_row w g o _ _ hh
theorem pcells_set (l : List Pn) (k : Nat) (hk : k < l.length) (p : Pn) : pcells (l.set k p) = ((((pcells l).set (k * 4) (.int .i64 p.area)).set (k * 4 + 1) (.int .i64 p.job)).set (k * 4 + 2) (.int .i64 p.sex)).set (k * 4 + 3) (.int .i64 p.pay) := by
  induction l generalizing k with
  | nil => simp at hk
  | cons q l ih =>
    cases k with
    | zero => simp [pcells, Pn.cells]
    | succ k =>
      have h := ih k (by simpa using hk)
      have e0 : (k + 1) * 4 = k * 4 + 4 := by omega
      simp only [pcells] at h
      simp only [List.set_cons_succ, pcells, List.flatMap_cons, Pn.cells, e0, List.cons_append, List.nil_append]
      rw [h]
/-- The area of one person written anew. -/
def reArea (p : Pn) (x : Int) : Pn := ⟨x, p.job, p.sex, p.pay⟩
theorem pcells_area (l : List Pn) (k : Nat) (hk : k < l.length) (x : Int) : pcells (l.set k (reArea l[k] x)) = (pcells l).set (k * 4) (.int .i64 x) := by
  induction l generalizing k with
  | nil => simp at hk
  | cons q l ih =>
    cases k with
    | zero => simp [pcells, Pn.cells, reArea]
    | succ k =>
      have h := ih k (by simpa using hk)
      have e0 : (k + 1) * 4 = k * 4 + 4 := by omega
      simp only [pcells] at h
      simp only [List.set_cons_succ, pcells, List.flatMap_cons, Pn.cells, e0, List.cons_append, List.nil_append, List.getElem_cons_succ]
      rw [h]
theorem Own.setArea {w : World} {B g n c : Nat} {l : List Pn} (h : Own w B (.slice (some ⟨g, 0, none⟩) n c) l) (k : Nat) (hk : k < l.length) (x : Int) :
    Own (w.setCell ⟨g, k * 4, none⟩ (.int .i64 x)) B (.slice (some ⟨g, 0, none⟩) n c) (l.set k (reArea l[k] x)) := by
  obtain ⟨h1, h2⟩ := h
  rcases h2 with ⟨hv, _⟩ | ⟨g', cap, cur, hv, hg, hh, hnc, hc, hsz, ht⟩
  · cases hv
  · have hgg : g' = g ∧ cap = c ∧ n = l.length := by
      injection hv with a1 a2 a3
      injection a1 with a1
      injection a1 with a1
      exact ⟨a1.symm, a3.symm, a2⟩
    obtain ⟨rfl, rfl, rfl⟩ := hgg
    refine ⟨by rw [pcells_length], .inr ⟨g', cap, cur.setIfInBounds (k * 4) (.int .i64 x), by rw [List.length_set], hg, ?_, by rw [List.length_set]; exact hnc, hc, by simpa using hsz, ?_⟩⟩
    · simp [World.setCell, Array.getElem?_modify, hh]
    · simp only [Array.toList_setIfInBounds, List.length_set, List.take_set]
      rw [ht, pcells_area l k hk x]
/-- The first k have been looked at. -/
def mrgTo (l : List Pn) (k : Nat) : List Pn := mrg (l.take k) ++ l.drop k
theorem mrgTo_len (l : List Pn) (k : Nat) (hk : k ≤ l.length) : (mrgTo l k).length = l.length := by simp [mrgTo, mrg_len]; omega
theorem mrgTo_zero (l : List Pn) : mrgTo l 0 = l := by simp [mrgTo, mrg]
theorem mrgTo_all (l : List Pn) : mrgTo l l.length = mrg l := by simp [mrgTo]
theorem mrgTo_at (l : List Pn) (k : Nat) (hk : k < l.length) (h : k < (mrgTo l k).length) : (mrgTo l k)[k] = l[k] := by
  have hl : (mrg (l.take k)).length = k := by rw [mrg_len, List.length_take]; omega
  have e : mrgTo l k = mrg (l.take k) ++ l.drop k := rfl
  have h2 : (mrgTo l k)[k]? = l[k]? := by
    rw [e, List.getElem?_append_right (by omega), hl, Nat.sub_self, List.getElem?_drop, Nat.add_zero]
  rw [List.getElem?_eq_getElem h, List.getElem?_eq_getElem hk] at h2
  exact Option.some.inj h2
theorem mrgTo_step (l : List Pn) (k : Nat) (hk : k < l.length) : mrgTo l (k + 1) = (mrgTo l k).set k (if l[k].area = 1 then reArea l[k] 0 else l[k]) := by
  have hl : (mrg (l.take k)).length = k := by rw [mrg_len, List.length_take]; omega
  have e : mrg (l.take (k + 1)) = mrg (l.take k) ++ [if l[k].area = 1 then reArea l[k] 0 else l[k]] := by
    rw [List.take_succ_eq_append_getElem hk]; unfold mrg; rw [List.map_append]; rfl
  unfold mrgTo
  rw [e, List.set_append_right _ _ (by omega), hl, Nat.sub_self, List.drop_eq_getElem_cons hk, List.set_cons_zero, List.append_assoc]; rfl
theorem mrgTo_same (l : List Pn) (k : Nat) (hk : k < l.length) (h : ¬ l[k].area = 1) : mrgTo l (k + 1) = mrgTo l k := by
  have hlt : k < (mrgTo l k).length := by rw [mrgTo_len l k (by omega)]; exact hk
  rw [mrgTo_step l k hk, if_neg h, ← mrgTo_at l k hk hlt, List.set_getElem_self]
/-- Headers of rows, each row where it lies. -/
theorem isR_heads {w : World} {v : Value} {hs : List Value} {B : Nat} {ll : List (List Int)} (h : Own1 TI w B v hs) (hl : hs.length = ll.length)
    (hr : ∀ i, i < ll.length → IsI w (hs.getD i nilS) (ll.getD i [])) : IsR w v ll := by
  obtain ⟨A, c, hv, h1, h2, h3, _⟩ := h.form
  rw [hl] at hv h1
  refine ⟨A, c, hv, h1, h2, hs, hl, h3, fun i hi => ?_⟩
  obtain ⟨Ai, ci, e, h4, h5, h6⟩ := hr i hi
  refine ⟨Ai, ci, ?_, h4, h5, h6⟩
  rw [← e, List.getD_eq_getElem?_getD, List.getElem?_eq_getElem (by omega)]; rfl
/-- The headers of rows. -/
theorem IsR.heads {w : World} {A : Option Addr} {n c : Nat} {ll : List (List Int)} (h : IsR w (.slice A n c) ll) : ∃ hs : List Value, hs.length = ll.length ∧ n = ll.length ∧ n ≤ c ∧ c ≤ maxLen ∧ Row w w.heap.size A hs ∧ ∀ i, i < ll.length → IsI w (hs.getD i nilS) (ll.getD i []) := by
  obtain ⟨A', c', e, h1, h2, hs, h3, h4, h5⟩ := h
  injection e with e1 e2 e3
  subst e1 e3
  refine ⟨hs, h3, e2, by omega, h2, h4, fun i hi => ?_⟩
  obtain ⟨Ai, ci, e, k1, k2, k3⟩ := h5 i hi
  exact ⟨Ai, ci, by rw [List.getD_eq_getElem?_getD, e]; rfl, k1, k2, k3⟩
theorem heads_one {w : World} {hs : List Value} {ll : List (List Int)} (hl : hs.length = ll.length) (h : ∀ i, i < ll.length → IsI w (hs.getD i nilS) (ll.getD i [])) : ∀ u ∈ hs, u.oneCell' = true := by
  intro u hu
  obtain ⟨i, hi, rfl⟩ := List.getElem_of_mem hu
  obtain ⟨A, c, e, _⟩ := h i (by omega)
  have e2 : hs.getD i nilS = hs[i] := by rw [List.getD_eq_getElem?_getD, List.getElem?_eq_getElem hi]; rfl
  rw [← e2, e]; rfl
theorem heads_put {w : World} {v : Value} {hs : List Value} {B : Nat} {x : List Int} {ll : List (List Int)} {u : Value} (h : Own1 TI w B v ([u] ++ hs)) (hu : IsI w u x) (hl : hs.length = ll.length)
    (hr : ∀ i, i < ll.length → IsI w (hs.getD i nilS) (ll.getD i [])) : IsR w v (x :: ll) := by
  refine isR_heads (hs := [u] ++ hs) h (by simp [hl]) fun i hi => ?_
  cases i with
  | zero => exact hu
  | succ i => exact hr i (by simpa using hi)
set_option maxRecDepth 100000 in
set_option maxHeartbeats 4000000 in
theorem w_TableOfMerge (A : Option Addr) (n c : Nat) (hnc : n ≤ c) (hn : n ≤ maxLen) (w : World) (hb : Bytes w w.heap.size A n) :
    Calls Try.prog 4 #[.slice A n c] w fun e w' => e = .returned (.bool true) ∧ Below w.heap.size w w' := by
  have hn2 := hn
  unfold maxLen at hn2
  rcases (show 1048576 < n ∨ ¬ 1048576 < n by omega) with hbig | hbig
  · go_enter Try.func4, Try.ntmps4
    go_wp2
    go_ret
    exact ⟨rfl, Below.refl _ _⟩
  · go_enter Try.func4, Try.ntmps4
    go_wp2_with fail
    refine (dTabOf_any A n c hnc hn _ hb).mono ?_
    rintro e W ⟨v, l, rfl, hv, hl, hbd, hbW⟩
    have HV := Lib.hid hv
    obtain ⟨g, hg⟩ : ∃ g, okL l = g := ⟨_, rfl⟩
    have HG := Lib.hid hg
    obtain ⟨m, hm⟩ : ∃ m, tabI l = m := ⟨_, rfl⟩
    have HM := Lib.hid hm
    have HL := Lib.hid (show l.length ≤ 1048576 by omega)
    clear hv hbd hg hm
    go_wp2_with fail
    refine (iTabOf_is W l _ HV.out m g HM.out HG.out HL.out _ (Below.refl _ _)).mono ?_
    rintro e w1 ⟨v1, rfl, ho1, b1⟩
    have HVa := Lib.hid (HV.out.below b1)
    go_wp2_with fail
    refine (sTabOf_is w1 l _ HVa.out m g HM.out HG.out HL.out _ (Below.refl _ _)).mono ?_
    rintro e w2 ⟨v2, rfl, ho2, b2⟩
    have H1 := Lib.hid ((ho1.below b2).is)
    have H2 := Lib.hid ho2.is
    have HVb := Lib.hid (HVa.out.below b2)
    have HB := Lib.hid (hbW.trans ((b1.trans (b2.mono b1.size)).mono hbW.size))
    clear ho1 ho2 b1 b2 HVa HV hbW
    go_wp2_with fail
    refine (lRows_is w2 m v1 H1.out v2 H2.out _ (Below.refl _ _)).mono ?_
    rintro e w3 ⟨rfl, b3⟩
    cases g
    · go_wp2_with fail
      refine (lRows_is w2 m v1 H1.out v2 H2.out _ b3).mono ?_
      rintro e w4 ⟨rfl, b4⟩
      go_wp2
      go_ret
      exact ⟨rfl, HB.out.trans (b4.mono HB.out.size)⟩
    have hm : m = tabOf l := by rw [← HM.out, tabI, if_pos HG.out]
    subst hm
    have hoc := ok_codes HG.out
    have h40 := hoc.2.2
    obtain ⟨hf1, hf2, hf3⟩ := m_merge HG.out
    have hokm := mrg_ok HG.out
    have HFO := Lib.hid hf1
    have HFM := Lib.hid (show foldI (tabOf l) 0 1 = (tabOf (mrg l)).getD 0 [] :: (tabOf (mrg l)).drop 2 by rw [foldI, if_pos hf1]; exact hf2)
    have HS0 := Lib.hid hf3
    have HOKM := Lib.hid hokm
    obtain ⟨A0, c0, hv0, _, _, hrow⟩ := HVb.out
    subst hv0
    have HRW := Lib.hid (hrow.below b3 (Nat.le_refl _))
    have HB3 := Lib.hid b3
    have HLN := Lib.hid h40
    clear hoc hf1 hf2 hf3 hokm hrow b3 hl
    go_wp2_with (first
      | (at_builtin
         refine appP rfl (.tmp 50) (.tmp 51) rfl w3.heap.size (.slice (some ⟨w3.heap.size, 0, none⟩) 0 0) [] rfl (own_new w3 w3 (Below.refl _ _)) w2.heap.size A0 l.length c0 l rfl rfl (HRW.out.below ((Below.refl w3.heap.size w3).alloc (Nat.le_refl _) _) (by have := HB3.out.size; exact this)) (by have := HLN.out; simp; omega) (by simp) ?_
         intro v5 w5 ho5 hg5
         have HB5 := Lib.hid (below_own (W := w3) ((Below.refl _ _).alloc (Nat.le_refl _) _) (own_new w3 w3 (Below.refl _ _)) hg5)
         have HO5 := Lib.hid (show Own w5 w3.heap.size v5 (mrgTo l 0) by rw [mrgTo_zero]; exact ho5)
         clear ho5 hg5))
    obtain ⟨q, hq⟩ : ∃ q, l.length = q := ⟨_, rfl⟩
    obtain ⟨A5, c5, hv5, _, _, _, _⟩ := HO5.out.form
    have hlm := mrgTo_len l 0 (Nat.zero_le _)
    rw [hlm, hq] at hv5
    have hgg : ∀ k, k < q → ∃ g, A5 = some ⟨g, 0, none⟩ ∧ w3.heap.size ≤ g := by
      intro k hk
      rcases HO5.out.2 with ⟨_, h0⟩ | ⟨g', cap, cur, hv, hg, _⟩
      · have e0 : (mrgTo l 0).length = 0 := h0
        omega
      · rw [hv5] at hv
        injection hv with a1
        exact ⟨g', a1, hg⟩
    have HGG := Lib.hid hgg
    have HQ := Lib.hid hq
    subst hv5
    rw [hq] at HVb h40 ⊢
    clear hgg hq hlm
    go_wp2
    go_loopw [9] (fun i wr => ∃ k : Nat, k ≤ q ∧ i = .int .i64 k ∧ Own wr w3.heap.size (.slice A5 q c5) (mrgTo l k) ∧ Below w3.heap.size w3 wr) (fun i _ => q - (intOf i).toNat)
    case atStart => exact ⟨0, Nat.zero_le _, rfl, HO5.out, HB5.out⟩
    case round =>
      obtain ⟨k, hk, rfl, ho, hb6⟩ := hrel
      have HO6 := Lib.hid ho
      have HB6 := Lib.hid hb6
      clear ho hb6
      by_cases hlt : k < q
      · have hki : (k : Int) < (q : Int) := by omega
        have hkl : k < l.length := by rw [HQ.out]; exact hlt
        have hkn : k < (mrgTo l k).length := by rw [mrgTo_len l k (by omega)]; exact hkl
        obtain ⟨g5, hA5, hg5⟩ := HGG.out k hlt
        subst hA5
        obtain ⟨d0, e1', e2', e3', hfz⟩ := HO6.out.cellAt k hkn
        clear e1' e2' e3'
        rw [mrgTo_at l k hkl hkn] at d0
        have f0 := hfz (k * 4)
        have HBS := Lib.hid (HB6.out.setCell (p := ⟨g5, k * 4, none⟩) hg5 (.int .i64 0))
        have HSS := Lib.hid (show (l[k]).area = 1 → Own (wr.setCell ⟨g5, k * 4, none⟩ (.int .i64 0)) w3.heap.size (.slice (some ⟨g5, 0, none⟩) q c5) (mrgTo l (k + 1)) from fun h1 => by
          have h := HO6.out.setArea k hkn 0
          rw [mrgTo_at l k hkl hkn] at h
          rw [mrgTo_step l k hkl, if_pos h1]; exact h)
        have HSN := Lib.hid (show ¬ (l[k]).area = 1 → mrgTo l (k + 1) = mrgTo l k from mrgTo_same l k hkl)
        obtain ⟨ar, har⟩ : ∃ ar, (l[k]).area = ar := ⟨_, rfl⟩
        rw [har] at d0 HSS HSN
        clear hfz har hkn hkl hg5
        by_cases h1 : ar = 1
        · subst h1
          have HS1 := Lib.hid (HSS.out rfl)
          clear HSS HSN
          go_wp2
          go_roundw
          case rel => exact ⟨k + 1, by omega, by go_num, HS1.out, HBS.out⟩
          case measure => simp [intOf]; omega
        · have hb1 : (ar == 1) = false := by rw [beq_eq_false_iff_ne]; exact h1
          have HN1 := Lib.hid (HSN.out h1)
          clear HSS HSN HBS h1
          go_wp2
          go_roundw
          case rel => exact ⟨k + 1, by omega, by go_num, by rw [HN1.out]; exact HO6.out, HB6.out⟩
          case measure => simp [intOf]; omega
      · have hki : ¬ (k : Int) < (q : Int) := by omega
        have hkq : k = l.length := by rw [HQ.out]; omega
        have ho := HO6.out
        rw [hkq, mrgTo_all] at ho
        have HY := Lib.hid ho.isP'
        have hbr := HB3.out.trans (HB6.out.mono HB3.out.size)
        have HTI := Lib.hid (show tabI (mrg l) = tabOf (mrg l) by rw [tabI, if_pos HOKM.out])
        have HML := Lib.hid (show (mrg l).length ≤ 1048576 by rw [mrg_len]; have := HLN.out; omega)
        have HSUM := Lib.hid (show (∀ y ∈ (tabOf (mrg l)).getD 1 [], 0 ≤ y ∧ y ≤ 1000000) ∧ ((tabOf (mrg l)).getD 1 []).length ≤ 1000 from by
          have ht := tabOf_tab (l := mrg l) (by rw [mrg_len]; have := HLN.out; omega)
          have hm : (tabOf (mrg l)).getD 1 [] ∈ tabOf (mrg l) := by rw [getD_of _ _ (by rw [tabOf_len]; omega)]; exact List.getElem_mem _
          exact ⟨fun y hy => by have := ht.bd _ hm y hy; omega, by rw [tabOf_row (mrg l) (by omega)]; simp⟩)
        clear ho hkq HO6 hki hk
        go_wp2_with fail
        refine (iFold_is w2 (tabOf l) _ H1.out 0 1 _ true HFM.out HFO.out _ hbr).mono ?_
        rintro e w6 ⟨v6, rfl, ho6, h6⟩
        have b6 : Below w2.heap.size w2 w6 := hbr.trans (h6.mono hbr.size)
        go_wp2_with fail
        refine (iTabOf_is w6 (mrg l) _ (HY.out.below h6) _ true HTI.out HOKM.out HML.out _ (Below.refl _ _)).mono ?_
        rintro e w7 ⟨v7, rfl, ho7, h7⟩
        have HB7 := Lib.hid (HB.out.trans ((b6.trans (h7.mono b6.size)).mono HB.out.size))
        have HF6 := Lib.hid ((ho6.below h7).is)
        have HZ := Lib.hid ho7.is
        obtain ⟨tb, htb⟩ : ∃ tb, tabOf (mrg l) = tb := ⟨_, rfl⟩
        have htl : tb.length = 4 := by rw [← htb]; exact tabOf_len _
        rw [htb] at HF6 HZ HS0 HSUM
        obtain ⟨Az, cz, hvz, hcz, hmz, hll⟩ := HZ.out
        rw [htl] at hvz hcz
        obtain ⟨bz, oz, A0, c0', hAz, hbz, e0, _, _, hr0⟩ := hll.at_ 0 (by omega)
        obtain ⟨bz', oz', A1, c1', hAz', _, e1, _, _, hr1⟩ := hll.at_ 1 (by omega)
        subst hAz
        injection hAz' with hAz'
        injection hAz' with q1 q2
        subst q1 q2
        skip
        obtain ⟨B2, hsl0, htl2⟩ := sliceTailLL (some ⟨bz, oz, none⟩) 4 cz 2 (by omega) hcz
        have hsl : ∀ w, (Instr.sliceAt TII (.slice (some ⟨bz, oz, none⟩) 4 cz) (some (.int .i64 2)) none none).run Try.prog w = .ok (.slice B2 2 (cz - 2)) w := hsl0
        have hdl : (tb.drop 2).length = 2 := by rw [List.length_drop, htl]
        have hIT : IsR w7 (.slice B2 2 (cz - 2)) (tb.drop 2) := ⟨B2, cz - 2, by rw [hdl], by rw [hdl]; omega, by omega, htl2 w7 w7.heap.size tb htl hll⟩
        obtain ⟨hs2, hl2, hx2, hx3, hx4, hrow2, hii2⟩ := hIT.heads
        clear hx2 hx3 hx4
        have hone2 := heads_one hl2 hii2
        have HL22 := Lib.hid (show 2 = hs2.length by rw [hl2, hdl])
        have HII := Lib.hid hii2
        have HL2 := Lib.hid hl2
        have HI0 := Lib.hid (show IsI w7 _ (tb.getD 0 []) from ⟨A0, c0', rfl, by assumption, by assumption, hr0⟩)
        have HI1 := Lib.hid (show IsI w7 _ (tb.getD 1 []) from ⟨A1, c1', rfl, by assumption, by assumption, hr1⟩)
        obtain ⟨n0, hn0⟩ : ∃ n, (tb.getD 0 []).length = n := ⟨_, rfl⟩
        obtain ⟨n1, hn1⟩ : ∃ n, (tb.getD 1 []).length = n := ⟨_, rfl⟩
        rw [hn0] at e0 HI0
        rw [hn1] at e1 HI1
        subst hvz
        have HE0 := Lib.hid (show w7.cell? ⟨bz, oz, none⟩ = some (.slice A0 n0 c0') from e0)
        have HE1 := Lib.hid e1
        have HSL := Lib.hid hsl
        have HR2 := Lib.hid hrow2
        have HN2 := Lib.hid hone2
        clear e0 e1 hll hr0 hr1 hn0 hn1 htl2 hIT hii2 hl2 hdl hsl0 htl htb ho6 ho7 hsl hrow2 hone2
        go_wp2
        skip
        have e0 := HE0.out
        have e1 := HE1.out
        have hsl := HSL.out
        have hrow2 := HR2.out
        have hone2 := HN2.out
        have HFF := Lib.hid (show ∀ w', Below w7.heap.size w7 w' → (Below w7.heap.size w7 w' ∧ w'.cell? ⟨bz, oz, none⟩ = some (.slice A0 n0 c0') ∧ w'.cell? ⟨bz, oz + 1, none⟩ = some (.slice A1 n1 c1')) from
          fun w' h => ⟨h, (h.cell (p := ⟨bz, oz, none⟩) hbz).trans e0, (h.cell (p := ⟨bz, oz + 1, none⟩) hbz).trans e1⟩)
        have b0 : Below w7.heap.size w7 w7.drew := (Below.refl _ _).drew
        have bA : Below w7.heap.size w7 ((w7.alloc (.cells #[.slice A0 n0 c0'] TI)).drew) := ((Below.refl _ _).alloc (Nat.le_refl _) _).drew
        have oA : Own1 TI ((w7.alloc (.cells #[.slice A0 n0 c0'] TI)).drew) w7.heap.size (.slice (some ⟨w7.heap.size, 0, none⟩) 1 1) [.slice A0 n0 c0'] := own1_lit #[.slice A0 n0 c0'] (Nat.le_refl _) (by simp)
        go_region_held3 (fun w' => Below w7.heap.size w7 w' ∧ w'.cell? ⟨bz, oz, none⟩ = some (.slice A0 n0 c0') ∧ w'.cell? ⟨bz, oz + 1, none⟩ = some (.slice A1 n1 c1'))
          (first | exact HFF.out _ (by assumption) | exact HFF.out _ b0 | exact HFF.out _ bA)
          (first
            | (refine step1 one_II rfl (.tmp 94) (.tmp 96) rfl w7.heap.size (.slice (some ⟨w7.heap.size, 0, none⟩) 1 1) [.slice A0 n0 c0'] rfl oA w7.heap.size B2 2 (cz - 2) hs2 HL22.out rfl (hrow2.below bA (Nat.le_refl _)) hone2 (by rw [← HL22.out]; simp) bA.size ?_
               intro v8 w8 ho8 hg8 hx8
               clear hx8
               have hb8 : Below w7.heap.size w7 w8 := below_own1 bA oA hg8
               have HX8 := Lib.hid (heads_put ho8 (HI0.out.below hb8) HL2.out (fun i hi => (HII.out i hi).below hb8))
               clear ho8 hg8)
            | (go_at_call 11
               refine (lRows_is w8 _ _ (HF6.out.below hb8) _ HX8.out _ (Below.refl _ _)).mono ?_
               rintro e w9 ⟨rfl, b9⟩
               have hb9 : Below w7.heap.size w7 w9 := hb8.trans (b9.mono hb8.size))
            | (go_at_call 15
               refine (lSum_is w7 _ _ HI1.out HSUM.out.1 HSUM.out.2 0 HS0.out _ hb9).mono ?_
               rintro e w10 ⟨rfl, b10⟩))
        go_wp2
        go_ret
        exact ⟨by first | rfl | exact retb (by simp), HB7.out.trans (b10.mono HB7.out.size)⟩
end Go.Proofs.Ytflelekpcbmmbaa
