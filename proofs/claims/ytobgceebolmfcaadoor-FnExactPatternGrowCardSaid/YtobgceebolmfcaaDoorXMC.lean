/- XMB, XMK laid together. -/
import Derived.Test.YtobgceebolmfcaaDoorXMA
namespace Go.Proofs.YtobgceebolmfcaaDoor
open Go.RowKit
/-- The numbers that marking writes into a row of n from K on. -/
def mkB (K n : Nat) : List Bool := (List.range n).map fun j => (((K + j : Nat) : Int) % 3 == 0)
theorem mkB_len (K n : Nat) : (mkB K n).length = n := by simp [mkB]
theorem mkB_get (K n j : Nat) (hj : j < n) : (mkB K n).getD j false = (((K + j : Nat) : Int) % 3 == 0) := by
  unfold mkB; rw [List.getD_eq_getElem?_getD, List.getElem?_map, List.getElem?_range hj]; rfl
theorem mkB_succ (K n : Nat) : mkB K (n + 1) = mkB K n ++ [(((K + n : Nat) : Int) % 3 == 0)] := by simp [mkB, List.range_succ]
theorem mkB_set (x : List Bool) (K q : Nat) (hq : q < x.length) : (bcells (mkB K q ++ x.drop q)).set q (.bool (((K + q : Nat) : Int) % 3 == 0)) = bcells (mkB K (q + 1) ++ x.drop (q + 1)) := by
  have hm := mkB_len K q
  rw [bcells_app, List.set_append_right _ _ (by rw [bcells_len]; omega), bcells_len, hm, Nat.sub_self, List.drop_eq_getElem_cons hq]
  simp only [bcells, List.map_cons, List.set_cons_zero, List.map_append, mkB_succ, List.append_assoc, List.cons_append, List.nil_append]
theorem markB_g (x : List Bool) (g c B : Nat) (w : World) (n : Nat) (hn : n = x.length) (ho : Own1 TBo w B (.slice (some ⟨g, 0, none⟩) n c) (bcells x)) (K : Nat) (hl : K + n ≤ 300000000) :
    Calls Tryd.prog 64 #[.slice (some ⟨g, 0, none⟩) n c, .int .i64 K] w fun e w' =>
      e = .returned (.int .i64 ((K + n : Nat) : Int)) ∧ Own1 TBo w' B (.slice (some ⟨g, 0, none⟩) n c) (bcells (mkB K n)) ∧ w.grownBy w' (some g) := by
  have HO := Lib.hid ho; clear ho
  have HN := Lib.hid hn; clear hn
  go_enter Tryd.func64, Tryd.ntmps64
  go_wp2
  go_loopw [1, 5] (fun k i wr => ∃ q : Nat, q ≤ n ∧ i = .int .i64 q ∧ k = .int .i64 ((K : Int) + q) ∧ Own1 TBo wr B (.slice (some ⟨g, 0, none⟩) n c) (bcells (mkB K q ++ x.drop q)) ∧ w.grownBy wr (some g)) (fun _ i _ => n - (intOf i).toNat)
  case atStart => exact ⟨0, Nat.zero_le _, rfl, by simp, by simpa [mkB] using HO.out, World.grownBy.refl w _⟩
  case round =>
    obtain ⟨q, hq, rfl, rfl, ho, hg⟩ := hrel
    clear HO
    have HO := Lib.hid ho; clear ho
    have HG := Lib.hid hg; clear hg
    by_cases hlt : q < n
    · have hqi : (q : Int) < (n : Int) := by omega
      have hqx : q < x.length := by rw [← HN.out]; exact hlt
      have hk : q < (bcells (mkB K q ++ x.drop q)).length := by rw [bcells_len]; simp [mkB_len]; omega
      have f0 := (HO.out.cellAt q hk).2
      have hcell := (HO.out.cellAt q hk).1
      obtain ⟨u, hu⟩ : ∃ u, (bcells (mkB K q ++ x.drop q))[q]? = some u := ⟨_, List.getElem?_eq_getElem hk⟩
      rw [hu] at hcell
      have hs := HO.out.setAt q (.bool (((K + q : Nat) : Int) % 3 == 0))
      rw [mkB_set x K q hqx] at hs
      have e : ((K + q : Nat) : Int) = (K : Int) + q := by simp
      rw [e] at hs
      have HS := Lib.hid hs
      clear hs hu hk hqx e
      go_wp2
      go_roundw
      case rel => exact ⟨q + 1, by omega, by go_num, by go_num, HS.out, grown_set HG.out (.inl rfl) _⟩
      case measure => simp [intOf]; omega
    · go_wp2
      go_ret
      have h := HO.out
      have e : q = n := by omega
      rw [List.drop_eq_nil_of_le (by rw [← HN.out]; omega), List.append_nil, e] at h
      exact ⟨reti (by omega), h, HG.out⟩
theorem markB_any (x : List Bool) (v : Value) (B : Nat) (w : World) (ho : Own1 TBo w B v (bcells x)) (K : Nat) (hl : K + x.length ≤ 300000000) :
    Calls Tryd.prog 64 #[v, .int .i64 K] w fun e w' => e = .returned (.int .i64 ((K + x.length : Nat) : Int)) ∧ Own1 TBo w' B v (bcells (mkB K x.length)) ∧ w.grownBy w' v.ownBlock := by
  rcases id ho.2 with ⟨rfl, h0⟩ | ⟨g, cap, curB, rfl, _⟩
  · rw [bcells_len] at h0
    obtain rfl : x = [] := List.eq_nil_of_length_eq_zero h0
    clear ho h0 hl
    go_enter Tryd.func64, Tryd.ntmps64
    go_wp2
    go_loopw [1, 5] (fun k i wr => i = .int .i64 0 ∧ k = .int .i64 K ∧ wr = w) (fun _ _ _ => 0)
    case atStart => exact ⟨rfl, rfl, rfl⟩
    case round =>
      obtain ⟨rfl, rfl, rfl⟩ := hrel
      go_wp2
      go_ret
      exact ⟨by simp, own1_nil _ B _, World.grownBy.refl _ _⟩
  · rw [bcells_len] at *
    exact markB_g x g cap B w _ rfl ho K hl
/-- All rows marked; the first k of them marked. -/
def curB (ll : List (List Bool)) (k : Nat) : List (List Bool) := (List.range ll.length).map fun i => if i < k then mkB (1 + totM (ll.take i)) (ll.getD i []).length else ll.getD i []
theorem curB_len (ll : List (List Bool)) (k : Nat) : (curB ll k).length = ll.length := by simp [curB]
theorem curB_get (ll : List (List Bool)) (k i : Nat) (hi : i < ll.length) : (curB ll k).getD i [] = if i < k then mkB (1 + totM (ll.take i)) (ll.getD i []).length else ll.getD i [] := by
  unfold curB; rw [List.getD_eq_getElem?_getD, List.getElem?_map, List.getElem?_range hi]; rfl
theorem curB_zero (ll : List (List Bool)) : curB ll 0 = ll := by
  refine List.ext_getElem? fun i => ?_
  by_cases hi : i < ll.length
  · rw [curB, List.getElem?_map, List.getElem?_range hi]
    simp [List.getElem?_eq_getElem hi]
  · rw [List.getElem?_eq_none (by rw [curB_len]; omega), List.getElem?_eq_none (by omega)]
theorem RwsB.mark {w w' : World} {B T k : Nat} {no : Option Nat} {hs : List Value} {ll : List (List Bool)} (h : RwsB w B T no hs (curB ll k)) (hk : k < ll.length)
    (ho : Own1 TBo w' B (hs.getD k nilS) (bcells (mkB (1 + totM (ll.take k)) (ll.getD k []).length))) (hg : w.grownBy w' (hs.getD k nilS).ownBlock) (hT : T ≤ w.heap.size) : RwsB w' B T no hs (curB ll (k + 1)) := by
  refine ⟨by rw [curB_len, h.1, curB_len], fun i hi => ?_, fun i j q hij hj e => h.2.2 i j q hij (by rw [curB_len] at *; exact hj) e⟩
  rw [curB_len] at hi
  obtain ⟨a1, a2⟩ := h.2.1 i (by rw [curB_len]; exact hi)
  refine ⟨?_, a2⟩
  rw [curB_get ll (k + 1) i hi]
  by_cases hik : i = k
  · subst hik; rw [if_pos (by omega)]; exact ho
  · have e : (if i < k + 1 then mkB (1 + totM (ll.take i)) (ll.getD i []).length else ll.getD i []) = (curB ll k).getD i [] := by
      rw [curB_get ll k i hi]
      by_cases h2 : i < k
      · rw [if_pos (by omega), if_pos h2]
      · rw [if_neg (by omega), if_neg h2]
    rw [e]
    refine a1.same fun q eq => hg.block q (by have := (a2 q eq).1; omega) fun e2 => ?_
    rcases Nat.lt_or_gt_of_ne hik with hlt | hgt
    · exact h.2.2 i k q hlt (by rw [curB_len]; exact hk) eq e2.symm
    · exact h.2.2 k i q hgt (by rw [curB_len]; exact hi) e2.symm eq
set_option maxHeartbeats 400000 in
theorem markBSS_any (ll : List (List Bool)) (n : Nat) (hn : n = ll.length) (A : Option Addr) (c B T : Nat) (w : World) (ho : MineB w B T (.slice A n c) ll) (hl : totM ll ≤ 1048576) (hl2 : n ≤ 1048576) :
    Calls Tryd.prog 34 #[.slice A n c, .int .i64 1] w fun e w' => e = .returned (.int .i64 ((1 + totM ll : Nat) : Int)) ∧ MineB w' B T (.slice A n c) (curB ll n) ∧ Within w w' B T := by
  have HN := Lib.hid hn; clear hn
  obtain ⟨hT, hv, hs, h1, h2⟩ := ho
  have HV := Lib.hid hv
  have H1 := Lib.hid h1
  have H2 := Lib.hid h2
  have hhs : hs.length = n := by rw [h2.1, HN.out]
  clear hv h1 h2
  have HL := Lib.hid hhs; clear hhs
  go_enter Tryd.func34, Tryd.ntmps34
  go_wp2
  go_loopw [1, 5] (fun v i wr => ∃ k : Nat, k ≤ n ∧ i = .int .i64 k ∧ v = .int .i64 ((1 + totM (ll.take k) : Nat) : Int) ∧ Own1 TBS wr B (.slice A n c) hs ∧ RwsB wr B T (Value.slice A n c).ownBlock hs (curB ll k) ∧ Within w wr B T ∧ T ≤ wr.heap.size) (fun _ i _ => n - (intOf i).toNat)
  case atStart => exact ⟨0, Nat.zero_le _, rfl, by simp [totM], H1.out, by rw [curB_zero]; exact H2.out, Within.refl _ _ _, hT⟩
  case round =>
    obtain ⟨k, hk, rfl, rfl, ho, hrw, hwi, hT2⟩ := hrel
    clear H1 H2
    have H1 := Lib.hid ho
    have H2 := Lib.hid hrw
    have HW := Lib.hid hwi
    clear ho hrw hwi
    by_cases hlt : k < n
    · have hki : (k : Int) < (n : Int) := by omega
      have hkl : k < ll.length := by rw [← HN.out]; exact hlt
      obtain ⟨g, c', hsl, c0, _⟩ := H1.out.slot k (by rw [HL.out]; exact hlt)
      injection hsl with e1 e2 e3
      subst e1
      clear e2 e3
      obtain ⟨a1, a2⟩ := H2.out.2.1 k (by rw [curB_len]; exact hkl)
      rw [curB_get ll k k hkl, if_neg (by omega)] at a1
      have hh : hs[k]? = some (hs.getD k nilS) := by rw [List.getD_eq_getElem?_getD, List.getElem?_eq_getElem (by rw [HL.out]; exact hlt)]; rfl
      rw [hh] at c0
      have HM := Lib.hid (fun (w' : World) => RwsB.mark (w' := w') H2.out hkl)
      have HTT := Lib.hid (totM_take ll k hkl)
      have HTA := Lib.hid (totM_le ll (k + 1))
      have HA2 := Lib.hid a2
      clear hh a2
      obtain ⟨h, hh⟩ : ∃ h, hs.getD k nilS = h := ⟨_, rfl⟩
      rw [hh] at a1 c0 HM HA2
      clear hh
      obtain ⟨x, hx⟩ : ∃ x, ll.getD k [] = x := ⟨_, rfl⟩
      rw [hx] at a1 HM HTT
      clear hx
      obtain ⟨Ai, ci, hv2, _, _, _, _⟩ := a1.form
      rw [bcells_len] at hv2
      subst hv2
      obtain ⟨q, hq⟩ : ∃ q, x.length = q := ⟨_, rfl⟩
      have HQ := Lib.hid hq
      obtain ⟨t, ht⟩ : ∃ t, 1 + totM (ll.take k) = t := ⟨_, rfl⟩
      have HTK := Lib.hid ht
      have HA1 := Lib.hid a1
      have hb : t + q ≤ 300000000 := by have h3 := HTT.out; have h4 := HTA.out; omega
      have htn : 1 + totM (ll.take (k + 1)) = t + q := by have h3 := HTT.out; omega
      have HTN := Lib.hid htn
      have HB := Lib.hid hb
      rw [ht] at HM ⊢
      clear a1 ht htn hb hkl
      rw [hq] at c0
      clear hq
      go_wp2_with fail
      refine ((by have h := markB_any x _ B wr HA1.out t (by rw [HQ.out]; exact HB.out); rw [HQ.out] at h; exact h) : Calls Tryd.prog 64 #[.slice Ai q ci, .int .i64 t] wr fun e w' => e = .returned (.int .i64 ((t + q : Nat) : Int)) ∧ Own1 TBo w' B (.slice Ai q ci) (bcells (mkB t q)) ∧ wr.grownBy w' (Value.slice Ai q ci).ownBlock).mono ?_
      rintro e w2 ⟨rfl, ho2, hg2⟩
      have HO2 := Lib.hid ho2
      have HG2 := Lib.hid hg2
      have hz2 := hg2.size
      clear ho2 hg2
      go_wp2
      go_roundw
      case rel =>
        refine ⟨k + 1, by omega, by go_num, by rw [HTN.out]; go_num, ?_, ?_, ?_, by omega⟩
        · refine H1.out.same fun j e => HG2.out.block j (H1.out.ob j e).2 fun e2 => ?_
          have h5 := (HA2.out j (by rw [HQ.out]; exact e2.symm)).2
          exact h5 (by rw [e])
        · exact HM.out w2 (by rw [HQ.out]; exact HO2.out) (by rw [HQ.out]; exact HG2.out) hT2
        · refine HW.out.grown HG2.out fun j e => ?_
          exact ⟨(HA1.out.ob j (by rw [HQ.out]; exact e)).1, (HA2.out j (by rw [HQ.out]; exact e)).1⟩
      case measure => simp [intOf]; omega
    · have hkn : k = n := by omega
      subst hkn
      have ht : ll.take k = ll := List.take_of_length_le (by rw [← HN.out]; omega)
      rw [ht]
      go_wp2
      go_ret
      exact ⟨rfl, ⟨hT2, HV.out, hs, H1.out, H2.out⟩, HW.out⟩
theorem heldB_any (K n : Nat) (A : Option Addr) (c : Nat) (w : World) (hr : Row w w.heap.size A (bcells (mkB K n))) (hl : K + n ≤ 300000000) :
    Calls Tryd.prog 65 #[.slice A n c, .int .i64 K] w fun e w' => e = .returned (.int .i64 ((K + n : Nat) : Int)) ∧ w = w' := by
  go_enter Tryd.func65, Tryd.ntmps65
  go_wp2
  go_loopw [1, 5] (fun k i wr => ∃ q : Nat, q ≤ n ∧ i = .int .i64 q ∧ k = .int .i64 ((K : Int) + q) ∧ w = wr) (fun _ i _ => n - (intOf i).toNat)
  case atStart => exact ⟨0, Nat.zero_le _, rfl, by simp, rfl⟩
  case round =>
    obtain ⟨q, hq, rfl, rfl, rfl⟩ := hrel
    by_cases hlt : q < n
    · have hqi : (q : Int) < (n : Int) := by omega
      obtain ⟨b, o, rfl, _, c0⟩ := hr.bool_ q (by rw [mkB_len]; exact hlt)
      rw [mkB_get K n q hlt] at c0
      have e : ((K + q : Nat) : Int) = (K : Int) + q := by simp
      rw [e] at c0
      clear e hr
      go_wp2
      go_roundw
      case rel => exact ⟨q + 1, by omega, by go_num, by go_num, by first | rfl | trivial⟩
      case measure => simp [intOf]; omega
    · go_wp2
      go_ret
      exact ⟨reti (by omega), rfl⟩
theorem heldBSS_any (ll : List (List Bool)) (n : Nat) (hn : n = ll.length) (A : Option Addr) (c : Nat) (w : World) (hr : LB w w.heap.size A (curB ll n)) (hl : totM ll ≤ 1048576) (hl2 : n ≤ 1048576) :
    Calls Tryd.prog 35 #[.slice A n c, .int .i64 1] w fun e w' => e = .returned (.int .i64 ((1 + totM ll : Nat) : Int)) ∧ w = w' := by
  have HN := Lib.hid hn; clear hn
  go_enter Tryd.func35, Tryd.ntmps35
  go_wp2
  go_loopw [1, 5] (fun v i wr => ∃ k : Nat, k ≤ n ∧ i = .int .i64 k ∧ v = .int .i64 ((1 + totM (ll.take k) : Nat) : Int) ∧ w = wr) (fun _ i _ => n - (intOf i).toNat)
  case atStart => exact ⟨0, Nat.zero_le _, rfl, by simp [totM], rfl⟩
  case round =>
    obtain ⟨k, hk, rfl, rfl, rfl⟩ := hrel
    by_cases hlt : k < n
    · have hki : (k : Int) < (n : Int) := by omega
      have hkl : k < ll.length := by rw [← HN.out]; exact hlt
      obtain ⟨b, o, Ai, ci, rfl, _, c0, _, _, r0⟩ := hr.at_ k (by rw [curB_len]; exact hkl)
      rw [curB_get ll n k hkl, if_pos hlt] at c0 r0
      rw [mkB_len] at c0
      have HTT := Lib.hid (totM_take ll k hkl)
      have HTA := Lib.hid (totM_le ll (k + 1))
      obtain ⟨q, hq⟩ : ∃ q, (ll.getD k []).length = q := ⟨_, rfl⟩
      obtain ⟨t, ht⟩ : ∃ t, 1 + totM (ll.take k) = t := ⟨_, rfl⟩
      rw [hq] at c0 r0 HTT
      rw [ht] at r0 ⊢
      have hb : t + q ≤ 300000000 := by have h3 := HTT.out; have h4 := HTA.out; omega
      have htn : 1 + totM (ll.take (k + 1)) = t + q := by have h3 := HTT.out; omega
      have HTN := Lib.hid htn
      have HR := Lib.hid r0
      clear hq ht htn r0 hr hkl
      go_wp2_with fail
      refine (heldB_any t q Ai ci _ HR.out hb).mono ?_
      rintro e w' ⟨rfl, rfl⟩
      have h0 : ¬ ((t + q : Nat) : Int) < 0 := by omega
      have h1 : ¬ ((t : Int) + (q : Int)) < 0 := by omega
      go_wp2
      go_roundw
      case rel => exact ⟨k + 1, by omega, by go_num, by rw [HTN.out]; go_num, by first | rfl | trivial⟩
      case measure => simp [intOf]; omega
    · have hkn : k = n := by omega
      subst hkn
      have ht : ll.take k = ll := List.take_of_length_le (by rw [← HN.out]; omega)
      rw [ht]
      go_wp2
      go_ret
      exact ⟨rfl, rfl⟩
theorem MineB.far {w w' : World} {B T B' T' : Nat} {v : Value} {ll : List (List Bool)} (h : MineB w B T v ll) (hw : Within w w' B' T') (hd : T ≤ B' ∨ T' ≤ B) : MineB w' B T v ll :=
  h.same hw.2.2.2.1 fun k h1 h2 => hw.2.2.2.2 k (Nat.lt_of_lt_of_le h2 h.1) (by omega)
theorem MineB.le {w : World} {B T : Nat} {v : Value} {ll : List (List Bool)} (h : MineB w B T v ll) : T ≤ w.heap.size := h.1
theorem MineB.sl {w : World} {B T : Nat} {v : Value} {ll : List (List Bool)} (h : MineB w B T v ll) : ∃ A c, v = .slice A ll.length c := by
  obtain ⟨A, c, hv, _⟩ := h.own.form
  exact ⟨A, c, hv⟩
theorem InM.sl' {w : World} {B T : Nat} {v : Value} {ll : Mk} (h : InM w B T v ll) : ∃ A c, v = .slice A ll.length c := MineB.sl h
theorem markM_in (ll : Mk) (v : Value) (B T : Nat) (hl : ll.length + totM ll ≤ 1048576) (w : World) (h : InM w B T v ll) :
    Calls Tryd.prog 34 #[v, .int .i64 1] w fun e w' => e = .returned (.int .i64 ((1 + totM ll : Nat) : Int)) ∧ InM w' B T v (curB ll ll.length) ∧ Within w w' B T := by
  obtain ⟨A, c, rfl⟩ := h.sl'
  exact markBSS_any ll _ rfl A c B T w h (by omega) (by omega)
theorem heldM_is (ll : Mk) (hl : ll.length + totM ll ≤ 1048576) (v : Value) (w : World) (h : IsM w v (curB ll ll.length)) :
    Calls Tryd.prog 35 #[v, .int .i64 1] w fun e w' => e = .returned (.int .i64 ((1 + totM ll : Nat) : Int)) ∧ w = w' := by
  obtain ⟨A, c, rfl, _, _, h3⟩ := h
  rw [curB_len]
  exact heldBSS_any ll _ rfl A c w h3 (by omega) (by omega)
end Go.Proofs.YtobgceebolmfcaaDoor

namespace Go.Proofs.YtobgceebolmfcaaDoor
open Go.RowKit
/-- All rows marked; the first k of them marked. -/
def curMK (K0 : Nat) (ll : List (List Bool)) (k : Nat) : List (List Bool) := (List.range ll.length).map fun i => if i < k then mkB (K0 + totM (ll.take i)) (ll.getD i []).length else ll.getD i []
theorem curMK_len (K0 : Nat) (ll : List (List Bool)) (k : Nat) : (curMK K0 ll k).length = ll.length := by simp [curMK]
theorem curMK_get (K0 : Nat) (ll : List (List Bool)) (k i : Nat) (hi : i < ll.length) : (curMK K0 ll k).getD i [] = if i < k then mkB (K0 + totM (ll.take i)) (ll.getD i []).length else ll.getD i [] := by
  unfold curMK; rw [List.getD_eq_getElem?_getD, List.getElem?_map, List.getElem?_range hi]; rfl
theorem curMK_zero (K0 : Nat) (ll : List (List Bool)) : curMK K0 ll 0 = ll := by
  refine List.ext_getElem? fun i => ?_
  by_cases hi : i < ll.length
  · rw [curMK, List.getElem?_map, List.getElem?_range hi]
    simp [List.getElem?_eq_getElem hi]
  · rw [List.getElem?_eq_none (by rw [curMK_len]; omega), List.getElem?_eq_none (by omega)]
theorem RwsB.markK {K0 : Nat} {w w' : World} {B T k : Nat} {no : Option Nat} {hs : List Value} {ll : List (List Bool)} (h : RwsB w B T no hs (curMK K0 ll k)) (hk : k < ll.length)
    (ho : Own1 TBo w' B (hs.getD k nilS) (bcells (mkB (K0 + totM (ll.take k)) (ll.getD k []).length))) (hg : w.grownBy w' (hs.getD k nilS).ownBlock) (hT : T ≤ w.heap.size) : RwsB w' B T no hs (curMK K0 ll (k + 1)) := by
  refine ⟨by rw [curMK_len, h.1, curMK_len], fun i hi => ?_, fun i j q hij hj e => h.2.2 i j q hij (by rw [curMK_len] at *; exact hj) e⟩
  rw [curMK_len] at hi
  obtain ⟨a1, a2⟩ := h.2.1 i (by rw [curMK_len]; exact hi)
  refine ⟨?_, a2⟩
  rw [curMK_get K0 ll (k + 1) i hi]
  by_cases hik : i = k
  · subst hik; rw [if_pos (by omega)]; exact ho
  · have e : (if i < k + 1 then mkB (K0 + totM (ll.take i)) (ll.getD i []).length else ll.getD i []) = (curMK K0 ll k).getD i [] := by
      rw [curMK_get K0 ll k i hi]
      by_cases h2 : i < k
      · rw [if_pos (by omega), if_pos h2]
      · rw [if_neg (by omega), if_neg h2]
    rw [e]
    refine a1.same fun q eq => hg.block q (by have := (a2 q eq).1; omega) fun e2 => ?_
    rcases Nat.lt_or_gt_of_ne hik with hlt | hgt
    · exact h.2.2 i k q hlt (by rw [curMK_len]; exact hk) eq e2.symm
    · exact h.2.2 k i q hgt (by rw [curMK_len]; exact hi) e2.symm eq
set_option maxHeartbeats 400000 in
theorem markBSS_anyK (K0 : Nat) (hK0 : K0 ≤ 200000000) (ll : List (List Bool)) (n : Nat) (hn : n = ll.length) (A : Option Addr) (c B T : Nat) (w : World) (ho : MineB w B T (.slice A n c) ll) (hl : totM ll ≤ 1048576) (hl2 : n ≤ 1048576) :
    Calls Tryd.prog 34 #[.slice A n c, .int .i64 K0] w fun e w' => e = .returned (.int .i64 ((K0 + totM ll : Nat) : Int)) ∧ MineB w' B T (.slice A n c) (curMK K0 ll n) ∧ Within w w' B T := by
  have HN := Lib.hid hn; clear hn
  obtain ⟨hT, hv, hs, h1, h2⟩ := ho
  have HV := Lib.hid hv
  have H1 := Lib.hid h1
  have H2 := Lib.hid h2
  have hhs : hs.length = n := by rw [h2.1, HN.out]
  clear hv h1 h2
  have HL := Lib.hid hhs; clear hhs
  go_enter Tryd.func34, Tryd.ntmps34
  go_wp2
  go_loopw [1, 5] (fun v i wr => ∃ k : Nat, k ≤ n ∧ i = .int .i64 k ∧ v = .int .i64 ((K0 + totM (ll.take k) : Nat) : Int) ∧ Own1 TBS wr B (.slice A n c) hs ∧ RwsB wr B T (Value.slice A n c).ownBlock hs (curMK K0 ll k) ∧ Within w wr B T ∧ T ≤ wr.heap.size) (fun _ i _ => n - (intOf i).toNat)
  case atStart => exact ⟨0, Nat.zero_le _, rfl, by simp [totM], H1.out, by rw [curMK_zero]; exact H2.out, Within.refl _ _ _, hT⟩
  case round =>
    obtain ⟨k, hk, rfl, rfl, ho, hrw, hwi, hT2⟩ := hrel
    clear H1 H2
    have H1 := Lib.hid ho
    have H2 := Lib.hid hrw
    have HW := Lib.hid hwi
    clear ho hrw hwi
    by_cases hlt : k < n
    · have hki : (k : Int) < (n : Int) := by omega
      have hkl : k < ll.length := by rw [← HN.out]; exact hlt
      obtain ⟨g, c', hsl, c0, _⟩ := H1.out.slot k (by rw [HL.out]; exact hlt)
      injection hsl with e1 e2 e3
      subst e1
      clear e2 e3
      obtain ⟨a1, a2⟩ := H2.out.2.1 k (by rw [curMK_len]; exact hkl)
      rw [curMK_get K0 ll k k hkl, if_neg (by omega)] at a1
      have hh : hs[k]? = some (hs.getD k nilS) := by rw [List.getD_eq_getElem?_getD, List.getElem?_eq_getElem (by rw [HL.out]; exact hlt)]; rfl
      rw [hh] at c0
      have HM := Lib.hid (fun (w' : World) => RwsB.markK (K0 := K0) (w' := w') H2.out hkl)
      have HTT := Lib.hid (totM_take ll k hkl)
      have HTA := Lib.hid (totM_le ll (k + 1))
      have HA2 := Lib.hid a2
      clear hh a2
      obtain ⟨h, hh⟩ : ∃ h, hs.getD k nilS = h := ⟨_, rfl⟩
      rw [hh] at a1 c0 HM HA2
      clear hh
      obtain ⟨x, hx⟩ : ∃ x, ll.getD k [] = x := ⟨_, rfl⟩
      rw [hx] at a1 HM HTT
      clear hx
      obtain ⟨Ai, ci, hv2, _, _, _, _⟩ := a1.form
      rw [bcells_len] at hv2
      subst hv2
      obtain ⟨q, hq⟩ : ∃ q, x.length = q := ⟨_, rfl⟩
      have HQ := Lib.hid hq
      obtain ⟨t, ht⟩ : ∃ t, K0 + totM (ll.take k) = t := ⟨_, rfl⟩
      have HTK := Lib.hid ht
      have HA1 := Lib.hid a1
      have hb : t + q ≤ 300000000 := by have h3 := HTT.out; have h4 := HTA.out; omega
      have htn : K0 + totM (ll.take (k + 1)) = t + q := by have h3 := HTT.out; omega
      have HTN := Lib.hid htn
      have HB := Lib.hid hb
      rw [ht] at HM ⊢
      clear a1 ht htn hb hkl
      rw [hq] at c0
      clear hq
      go_wp2_with fail
      refine ((by have h := markB_any x _ B wr HA1.out t (by rw [HQ.out]; exact HB.out); rw [HQ.out] at h; exact h) : Calls Tryd.prog 64 #[.slice Ai q ci, .int .i64 t] wr fun e w' => e = .returned (.int .i64 ((t + q : Nat) : Int)) ∧ Own1 TBo w' B (.slice Ai q ci) (bcells (mkB t q)) ∧ wr.grownBy w' (Value.slice Ai q ci).ownBlock).mono ?_
      rintro e w2 ⟨rfl, ho2, hg2⟩
      have HO2 := Lib.hid ho2
      have HG2 := Lib.hid hg2
      have hz2 := hg2.size
      clear ho2 hg2
      go_wp2
      go_roundw
      case rel =>
        refine ⟨k + 1, by omega, by go_num, by rw [HTN.out]; go_num, ?_, ?_, ?_, by omega⟩
        · refine H1.out.same fun j e => HG2.out.block j (H1.out.ob j e).2 fun e2 => ?_
          have h5 := (HA2.out j (by rw [HQ.out]; exact e2.symm)).2
          exact h5 (by rw [e])
        · exact HM.out w2 (by rw [HQ.out]; exact HO2.out) (by rw [HQ.out]; exact HG2.out) hT2
        · refine HW.out.grown HG2.out fun j e => ?_
          exact ⟨(HA1.out.ob j (by rw [HQ.out]; exact e)).1, (HA2.out j (by rw [HQ.out]; exact e)).1⟩
      case measure => simp [intOf]; omega
    · have hkn : k = n := by omega
      subst hkn
      have ht : ll.take k = ll := List.take_of_length_le (by rw [← HN.out]; omega)
      rw [ht]
      go_wp2
      go_ret
      exact ⟨rfl, ⟨hT2, HV.out, hs, H1.out, H2.out⟩, HW.out⟩
set_option maxHeartbeats 400000 in
theorem heldBSS_anyK (K0 : Nat) (hK0 : K0 ≤ 200000000) (ll : List (List Bool)) (n : Nat) (hn : n = ll.length) (A : Option Addr) (c : Nat) (w : World) (hr : LB w w.heap.size A (curMK K0 ll n)) (hl : totM ll ≤ 1048576) (hl2 : n ≤ 1048576) :
    Calls Tryd.prog 35 #[.slice A n c, .int .i64 K0] w fun e w' => e = .returned (.int .i64 ((K0 + totM ll : Nat) : Int)) ∧ w = w' := by
  have HN := Lib.hid hn; clear hn
  go_enter Tryd.func35, Tryd.ntmps35
  go_wp2
  go_loopw [1, 5] (fun v i wr => ∃ k : Nat, k ≤ n ∧ i = .int .i64 k ∧ v = .int .i64 ((K0 + totM (ll.take k) : Nat) : Int) ∧ w = wr) (fun _ i _ => n - (intOf i).toNat)
  case atStart => exact ⟨0, Nat.zero_le _, rfl, by simp [totM], rfl⟩
  case round =>
    obtain ⟨k, hk, rfl, rfl, rfl⟩ := hrel
    by_cases hlt : k < n
    · have hki : (k : Int) < (n : Int) := by omega
      have hkl : k < ll.length := by rw [← HN.out]; exact hlt
      obtain ⟨b, o, Ai, ci, rfl, _, c0, _, _, r0⟩ := hr.at_ k (by rw [curMK_len]; exact hkl)
      rw [curMK_get K0 ll n k hkl, if_pos hlt] at c0 r0
      rw [mkB_len] at c0
      have HTT := Lib.hid (totM_take ll k hkl)
      have HTA := Lib.hid (totM_le ll (k + 1))
      obtain ⟨q, hq⟩ : ∃ q, (ll.getD k []).length = q := ⟨_, rfl⟩
      obtain ⟨t, ht⟩ : ∃ t, K0 + totM (ll.take k) = t := ⟨_, rfl⟩
      rw [hq] at c0 r0 HTT
      rw [ht] at r0 ⊢
      have hb : t + q ≤ 300000000 := by have h3 := HTT.out; have h4 := HTA.out; omega
      have htn : K0 + totM (ll.take (k + 1)) = t + q := by have h3 := HTT.out; omega
      have HTN := Lib.hid htn
      have HR := Lib.hid r0
      clear hq ht htn r0 hr hkl
      go_wp2_with fail
      refine (heldB_any t q Ai ci _ HR.out hb).mono ?_
      rintro e w' ⟨rfl, rfl⟩
      have h0 : ¬ ((t + q : Nat) : Int) < 0 := by omega
      have h1 : ¬ ((t : Int) + (q : Int)) < 0 := by omega
      go_wp2
      go_roundw
      case rel => exact ⟨k + 1, by omega, by go_num, by rw [HTN.out]; go_num, by first | rfl | trivial⟩
      case measure => simp [intOf]; omega
    · have hkn : k = n := by omega
      subst hkn
      have ht : ll.take k = ll := List.take_of_length_le (by rw [← HN.out]; omega)
      rw [ht]
      go_wp2
      go_ret
      exact ⟨rfl, rfl⟩
theorem markM_inK (K0 : Nat) (hK0 : K0 ≤ 200000000) (ll : Mk) (v : Value) (B T : Nat) (hl : ll.length + totM ll ≤ 1048576) (w : World) (h : InM w B T v ll) :
    Calls Tryd.prog 34 #[v, .int .i64 K0] w fun e w' => e = .returned (.int .i64 ((K0 + totM ll : Nat) : Int)) ∧ InM w' B T v (curMK K0 ll ll.length) ∧ Within w w' B T := by
  obtain ⟨A, c, rfl⟩ := h.sl'
  exact markBSS_anyK K0 hK0 ll _ rfl A c B T w h (by omega) (by omega)
theorem heldM_res (K0 : Nat) (hK0 : K0 ≤ 200000000) (ll : Mk) (hl : ll.length + totM ll ≤ 1048576) (v : Value) (w : World) (h : IsM w v (curMK K0 ll ll.length)) :
    Calls Tryd.prog 35 #[v, .int .i64 K0] w fun e w' => e = .returned (.int .i64 ((K0 + totM ll : Nat) : Int)) ∧ w = w' := by
  obtain ⟨A, c, rfl, _, _, h3⟩ := h
  rw [curMK_len]
  exact heldBSS_anyK K0 hK0 ll _ rfl A c w h3 (by omega) (by omega)
end Go.Proofs.YtobgceebolmfcaaDoor
