/- The draws of chapter 15: two tables. -/
import Derived.Test.YtkdffgcmnanniaaTDA
import Derived.Test.YtkdffgcmnanniaaTS6
namespace Go.Proofs.Ytkdffgcmnanniaa
open Go.RowKit
/-- A table that has a size, rows of any length up to 4. -/
def Sz (t : Tb) : Prop := t.length ≤ 4 ∧ ∀ r ∈ t, r.length ≤ 4
def TwoDrawn (R q : Nat) (w : World) (e : Ending) (w' : World) : Prop := ∃ v t v2 u, e = .returned (.tuple #[v, v2]) ∧ Mine w' w.heap.size w'.heap.size v t ∧ Mine w' w.heap.size w'.heap.size v2 u ∧ Sz t ∧ Sz u ∧ RdN w' R (q + 66) ∧ w.grownBy w' (some R)
theorem Sh2.set {t u : Tb} (h : u.length = t.length ∧ ∀ i, i < t.length → (u.getD i []).length = (t.getD i []).length) (i j : Nat) (x : Int) :
    (u.set i ((u.getD i []).set j x)).length = t.length ∧ ∀ k, k < t.length → ((u.set i ((u.getD i []).set j x)).getD k []).length = (t.getD k []).length := by
  refine ⟨by rw [List.length_set, h.1], fun k hk => ?_⟩
  by_cases e : i = k
  · subst e
    rw [gds_eq _ _ _ (by rw [h.1]; exact hk), List.length_set, h.2 i hk]
  · rw [gds_ne _ _ _ e, h.2 k hk]
theorem Sh2.sz {t u : Tb} (h : u.length = t.length ∧ ∀ i, i < t.length → (u.getD i []).length = (t.getD i []).length) (hs : Sz t) : Sz u := by
  refine ⟨by rw [h.1]; exact hs.1, fun r hr => ?_⟩
  obtain ⟨i, hi, rfl⟩ := List.getElem_of_mem hr
  have h2 := h.2 i (by rw [← h.1]; exact hi)
  rw [getD_of _ _ hi] at h2
  rw [h2, getD_of _ _ (by rw [← h.1]; exact hi)]
  exact hs.2 _ (List.getElem_mem _)
set_option maxRecDepth 100000 in
set_option maxHeartbeats 4000000 in
theorem two_any (R q : Nat) (hq : q + 66 < 1000000) (w : World) (hr : RdN w R q) :
    Calls Try.prog 31 #[.pointer (some ⟨R, 0, none⟩)] w (TwoDrawn R q w) := by
  have hR := hr.lt
  go_enter Try.func31, Try.ntmps31
  go_wp2_with fail
  refine (tab_any 9 (by omega) (by omega) R q (by omega) _ hr).mono ?_
  rintro e w1 ⟨v, t, rfl, ho, hl, hrow, hr1, hg1⟩
  have HO := Lib.hid ho
  have HG1 := Lib.hid hg1
  have hz1 := hg1.size
  have HSZ := Lib.hid (show Sz t from ⟨hl, hrow⟩)
  have HR1 := Lib.hid hr1
  clear hr ho hg1 hr1
  go_wp2_with fail
  refine (sCopy_is w1 t _ HO.out.is (by omega) (fun r hr => by have := hrow r hr; omega) w1 (Below.refl _ _)).mono ?_
  rintro e w2 ⟨v2, rfl, ho2, h2⟩
  have hR1 : R < w1.heap.size := by omega
  obtain ⟨T, hT⟩ : ∃ T, T = w2.heap.size := ⟨_, rfl⟩
  rw [← hT] at ho2
  obtain ⟨A2, c2, hv2, hc2, _, _⟩ := ho2.is
  subst hv2
  obtain ⟨n, hn⟩ : ∃ n, t.length = n := ⟨_, rfl⟩
  rw [hn] at ho2 ⊢
  have HN := Lib.hid hn
  have HREL := Lib.hid (show Mine w2 w1.heap.size T (.slice A2 n c2) t ∧ Mine w2 w.heap.size w1.heap.size v t ∧ RdN w2 R (q + 24 + 4 * 0) ∧ w.grownBy w2 (some R) from
    ⟨ho2, HO.out.below h2, (HR1.out.keep (h2.mono (Nat.lt_of_lt_of_le hR hz1))).more (by omega), grown_below HG1.out h2⟩)
  have hn4 : n ≤ 4 := by omega
  clear HO HG1 HR1 ho2 h2 hn hT hl hrow hc2
  go_wp2
  go_loopw [6] (fun i wr => ∃ (k : Nat) (u : Tb), k ≤ n ∧ i = .int .i64 k ∧ (u.length = t.length ∧ ∀ i, i < t.length → (u.getD i []).length = (t.getD i []).length) ∧ Mine wr w1.heap.size T (.slice A2 n c2) u ∧ Mine wr w.heap.size w1.heap.size v t ∧ RdN wr R (q + 24 + 4 * k) ∧ w.grownBy wr (some R)) (fun i _ => n - (intOf i).toNat)
  case atStart => exact ⟨0, t, Nat.zero_le _, rfl, ⟨rfl, fun _ _ => rfl⟩, HREL.out.1, HREL.out.2.1, HREL.out.2.2.1, HREL.out.2.2.2⟩
  case round =>
    obtain ⟨k, u, hk, rfl, hsh, ho, hot, hrd, hgr⟩ := hrel
    clear HREL
    have HSH := Lib.hid hsh
    have HO := Lib.hid ho
    have HOT := Lib.hid hot
    have HG := Lib.hid hgr
    have HRD := Lib.hid hrd
    clear hsh ho hot hgr hrd
    by_cases hlt : k < n
    · have hki : (k : Int) < (n : Int) := by omega
      obtain ⟨d, hd⟩ : ∃ d, (t.getD k []).length = d := ⟨_, rfl⟩
      have HD := Lib.hid hd
      have hd4 : d ≤ 4 := by rw [← hd, getD_of _ _ (by rw [HN.out]; exact hlt)]; exact HSZ.out.2 _ (List.getElem_mem _)
      clear hd
      go_wp2
      go_loopw [7] (fun j wr' => ∃ (p : Nat) (u : Tb), p ≤ d ∧ j = .int .i64 p ∧ (u.length = t.length ∧ ∀ i, i < t.length → (u.getD i []).length = (t.getD i []).length) ∧ Mine wr' w1.heap.size T (.slice A2 n c2) u ∧ Mine wr' w.heap.size w1.heap.size v t ∧ RdN wr' R (q + 24 + 4 * k + p) ∧ w.grownBy wr' (some R)) (fun j _ => d - (intOf j).toNat)
      case atStart => exact ⟨0, u, Nat.zero_le _, rfl, HSH.out, HO.out, HOT.out, HRD.out, HG.out⟩
      case round =>
        obtain ⟨p, u, hp, rfl, hsh, ho, hot, hrd, hgr⟩ := hrel
        clear HSH HO HOT HG HRD
        have hkt : k < t.length := by rw [HN.out]; exact hlt
        have hku : k < u.length := by rw [hsh.1]; exact hkt
        have hlu : (u.getD k []).length = d := by rw [hsh.2 k hkt, HD.out]
        by_cases hpd : p < d
        · have hpi : (p : Int) < (d : Int) := by omega
          obtain ⟨g, c', gi, ci, hv', k0, ⟨hgB, hgT⟩, ⟨hgi, hgiT⟩, hgne, k1, kf, _⟩ := ho.cell (i := k) (j := p) hku (by rw [hlu]; exact hpd)
          rw [hlu] at k0
          rw [hsh.1, HN.out] at hv'
          injection hv' with hv1 _ hv3
          subst hv1 hv3
          obtain ⟨x, hx⟩ : ∃ x, (u.getD k []).getD p 0 = x := ⟨_, rfl⟩
          rw [hx] at k1
          have HX := Lib.hid hx
          have HO := Lib.hid ho
          have HOT := Lib.hid hot
          have HSH := Lib.hid hsh
          have HG := Lib.hid hgr
          have HK := Lib.hid k0
          have HKU := Lib.hid hku
          have HLU := Lib.hid hlu
          clear ho hot hsh hgr hgne hx hkt hku hlu
          go_wp2
          go_region_with (
            go_at_call 39
            refine (pick_any 4 (by omega) (by omega) R (q + 24 + 4 * k + p) (by omega) _ (show RdN wr.drew R (q + 24 + 4 * k + p) from hrd)).mono ?_
            rintro e w6 ⟨y, rfl, y0, y1, hr6, hg6⟩
            have hblk : ∀ b, b ≠ R → b < wr.heap.size → w6.heap[b]? = wr.heap[b]? := fun b hb1 hb2 => (undrew hg6).block b hb2 (fun e => hb1 (by injection e))
            obtain ⟨k0', k1', kf', hset⟩ := HO.out.cellX (X := w6) HK.out (i := k) (j := p) HKU.out (by rw [HLU.out]; exact hpd) (undrew hg6).size (fun b hb1 hb2 => hblk b (by omega) (Nat.lt_of_lt_of_le hb2 HO.out.1))
            rw [HX.out] at k1'
            have HG6 := Lib.hid (grown_trans HG.out (undrew hg6))
            have HOT6 := Lib.hid (HOT.out.same (undrew hg6).size fun b hb1 hb2 => hblk b (by omega) (Nat.lt_of_lt_of_le hb2 HOT.out.1))
            have HST := Lib.hid hset
            clear hg6 hset hblk)
          all_goals
            obtain ⟨z, hz⟩ : ∃ z : Int, z = if 0 < IntKind.i64.wrap (x - y) then IntKind.i64.wrap (x - y) else 0 := ⟨_, rfl⟩
            rw [← hz]
            have hr7 := (hr6.setCell (a := ⟨gi, p, none⟩) (show R < gi by omega) (.int .i64 z)).more (q' := q + 24 + 4 * k + (p + 1)) (by omega)
            obtain ⟨X, hX⟩ : ∃ X, X = w6.setCell ⟨gi, p, none⟩ (.int .i64 z) := ⟨_, rfl⟩
            have HO7 := Lib.hid (show Mine X w1.heap.size T (.slice (some ⟨g, 0, none⟩) n c2) _ by rw [hX]; exact HST.out z)
            have HT7 := Lib.hid (show Mine X w.heap.size w1.heap.size v t by
              rw [hX]
              exact HOT6.out.same (by simp [World.setCell]) fun b hb1 hb2 => Below.heap_setCell w6 ⟨gi, p, none⟩ _ b (by show b ≠ gi; omega))
            have HS7 := Lib.hid (Sh2.set HSH.out k p z)
            have HG7 := Lib.hid (show w.grownBy X (some R) by rw [hX]; exact grown_set HG6.out (p := ⟨gi, p, none⟩) (.inr (by show w.heap.size ≤ gi; omega)) (.int .i64 z))
            rw [← hX] at hr7 ⊢
            clear hX hr6 HG6 HST k0 k1 kf k0' k1' kf' hrd HO HSH HG HK HOT HOT6 hz
            go_wp2
            go_roundw
            case rel => exact ⟨p + 1, _, by omega, by go_num, HS7.out, HO7.out, HT7.out, hr7, HG7.out⟩
            case measure => simp [intOf]; omega
        · have hpi : ¬ (p : Int) < (d : Int) := by omega
          obtain ⟨b, o, Ai, ci, hA, hb1, e0, _, _, _⟩ := (ho.is).head.2.2.2.at_ k hku
          subst hA
          rw [hlu] at e0
          have HO := Lib.hid ho
          have HOT := Lib.hid hot
          have HSH := Lib.hid hsh
          have HG := Lib.hid hgr
          have hrd := hrd.more (q' := q + 24 + 4 * (k + 1)) (by omega)
          clear ho hot hsh hgr hkt hku hlu
          go_wp2
          go_roundw
          case rel => exact ⟨k + 1, u, by omega, by go_num, HSH.out, HO.out, HOT.out, hrd, HG.out⟩
          case measure => simp [intOf]; omega
    · have hki : ¬ (k : Int) < (n : Int) := by omega
      have hrd := HRD.out.more (q' := q + 40) (by omega)
      have HSU := Lib.hid (Sh2.sz HSH.out HSZ.out)
      clear HRD
      go_wp2_with fail
      refine (pick_any 12 (by omega) (by omega) R (q + 40) (by omega) _ hrd).mono ?_
      rintro e W ⟨y, rfl, y0, y1, hrW, hgW⟩
      have HOW := Lib.hid (HO.out.grown hgW hR1)
      have HTW := Lib.hid (HOT.out.grown hgW hR)
      have HGW := Lib.hid (grown_trans HG.out hgW)
      have hzW := HGW.out.size
      clear hgW hrd HO HG HOT
      by_cases hy : y = 0
      · subst hy
        go_wp2_with fail
        refine (tab_any 9 (by omega) (by omega) R (q + 40 + 1) (by omega) _ hrW).mono ?_
        rintro e w5 ⟨v5, t5, rfl, ho5, hl5, hrow5, hr5, hg5⟩
        have HO5 := Lib.hid (Mine.lower ho5 hzW)
        have HOW5 := Lib.hid (HOW.out.grown hg5 hR1)
        have HG5 := Lib.hid (grown_trans HGW.out hg5)
        have hr6 := hr5.more (q' := q + 66) (by omega)
        clear ho5 hg5 hr5 hrW
        go_wp2
        go_ret2
        exact ⟨_, _, _, _, rfl, (Mine.lower HOW5.out hz1).up, HO5.out, HSU.out, ⟨hl5, hrow5⟩, hr6, HG5.out⟩
      · have hr6 := hrW.more (q' := q + 66) (by omega)
        clear hrW
        go_wp2
        go_ret2
        exact ⟨_, _, _, _, rfl, HTW.out.up, (Mine.lower HOW.out hz1).up, HSZ.out, HSU.out, hr6, HGW.out⟩
def DrawnTwo (w : World) (e : Ending) (w' : World) : Prop := ∃ v t v2 u, e = .returned (.tuple #[v, v2]) ∧ IsR w' v t ∧ IsR w' v2 u ∧ Sz t ∧ Sz u ∧ Below w.heap.size w w'
def DrawnTwoK (w : World) (e : Ending) (w' : World) : Prop := ∃ v t v2 u, ∃ k : Int, e = .returned (.tuple #[v, v2, .int .i64 k]) ∧ IsR w' v t ∧ IsR w' v2 u ∧ Sz t ∧ Sz u ∧ (0 ≤ k ∧ k ≤ 6) ∧ Below w.heap.size w w'
set_option maxHeartbeats 1000000 in
theorem dDiffTable_any (A : Option Addr) (n c : Nat) (hnc : n ≤ c) (hn : n ≤ maxLen) (w : World) (hb : Bytes w w.heap.size A n) :
    Calls Try.prog 12 #[.slice A n c] w (DrawnTwo w) := by
  go_enter Try.func12, Try.ntmps12
  go_wp2_with fail
  refine (l6Open_any A n c hnc hn _ hb).mono ?_
  rintro e w1 ⟨rfl, ⟨n', c', hr⟩, hb1⟩
  have hr1 : RdN w1 w.heap.size 0 := ⟨_, _, _, _, hr, Nat.le_refl _⟩
  clear hr hb
  have hR := hr1.lt
  have HB1 := Lib.hid hb1; clear hb1
  go_wp2_with fail
  refine (two_any w.heap.size 0 (by omega) _ hr1).mono ?_
  rintro e w2 ⟨v, t, v2, u, rfl, h1, h2, s1, s2, hr2, hg2⟩
  go_wp2
  go_ret2
  exact ⟨v, t, v2, u, rfl, h1.is, h2.is, s1, s2, HB1.out.trans (grown_old hg2 (Nat.le_refl _) (by omega))⟩
set_option maxHeartbeats 1000000 in
theorem dDiffRisk_any (A : Option Addr) (n c : Nat) (hnc : n ≤ c) (hn : n ≤ maxLen) (w : World) (hb : Bytes w w.heap.size A n) :
    Calls Try.prog 17 #[.slice A n c] w (DrawnTwoK w) := by
  go_enter Try.func17, Try.ntmps17
  go_wp2_with fail
  refine (l6Open_any A n c hnc hn _ hb).mono ?_
  rintro e w1 ⟨rfl, ⟨n', c', hr⟩, hb1⟩
  have hr1 : RdN w1 w.heap.size 0 := ⟨_, _, _, _, hr, Nat.le_refl _⟩
  clear hr hb
  have hR := hr1.lt
  have HB1 := Lib.hid hb1; clear hb1
  go_wp2_with fail
  refine (two_any w.heap.size 0 (by omega) _ hr1).mono ?_
  rintro e w2 ⟨v, t, v2, u, rfl, h1, h2, s1, s2, hr2, hg2⟩
  have H1 := Lib.hid h1
  have H2 := Lib.hid h2
  have HG2 := Lib.hid hg2
  clear h1 h2 hg2
  go_wp2_with fail
  refine (pick_any 6 (by omega) (by omega) w.heap.size _ (by omega) _ hr2).mono ?_
  rintro e w3 ⟨x, rfl, x0, x1, hr3, hg3⟩
  have HB3 := Lib.hid (HB1.out.trans (grown_old (grown_trans HG2.out hg3) (Nat.le_refl _) (by omega)))
  have H1' := Lib.hid ((H1.out.grown hg3 hR).is)
  have H2' := Lib.hid ((H2.out.grown hg3 hR).is)
  clear hg3 HG2 hr2 hr3
  go_wp2
  refine bodyPost_ret (results_tmp3 rfl _ _ _) rfl ?_
  exact ⟨v, t, v2, u, x, rfl, H1'.out, H2'.out, s1, s2, ⟨x0, by omega⟩, HB3.out⟩
end Go.Proofs.Ytkdffgcmnanniaa
