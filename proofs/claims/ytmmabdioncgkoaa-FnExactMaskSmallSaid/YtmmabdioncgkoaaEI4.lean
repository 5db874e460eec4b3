/- Exact laws over rows of integers: marks in returned memory. -/
import Derived.Test.YtmmabdioncgkoaaEI3
import Derived.Test.YtmmabdioncgkoaaA1
namespace Go.Proofs.Ytmmabdioncgkoaa
open Go.RowKit
/-- The numbers that marking writes into a row of n from K on. -/
def mk (K n : Nat) : List Int := (List.range n).map fun j => ((K + j : Nat) : Int)
theorem mk_len (K n : Nat) : (mk K n).length = n := by simp [mk]
theorem mk_get (K n j : Nat) (hj : j < n) : (mk K n).getD j 0 = ((K + j : Nat) : Int) := by
  unfold mk; rw [List.getD_eq_getElem?_getD, List.getElem?_map, List.getElem?_range hj]; rfl
theorem mk_succ (K n : Nat) : mk K (n + 1) = mk K n ++ [((K + n : Nat) : Int)] := by simp [mk, List.range_succ]
theorem mk_set (x : List Int) (K q : Nat) (hq : q < x.length) : (icells (mk K q ++ x.drop q)).set q (.int .i64 ((K + q : Nat) : Int)) = icells (mk K (q + 1) ++ x.drop (q + 1)) := by
  have hm := mk_len K q
  rw [icells_app, List.set_append_right _ _ (by rw [icells_len]; omega), icells_len, hm, Nat.sub_self, List.drop_eq_getElem_cons hq]
  simp only [icells, List.map_cons, List.set_cons_zero, List.map_append, mk_succ, List.append_assoc, List.cons_append, List.nil_append]
theorem markI_g (x : List Int) (g c B : Nat) (w : World) (n : Nat) (hn : n = x.length) (ho : Own1 TN w B (.slice (some ⟨g, 0, none⟩) n c) (icells x)) (K : Nat) (hl : K + n ≤ 300000000) :
    Calls Try.prog 28 #[.slice (some ⟨g, 0, none⟩) n c, .int .i64 K] w fun e w' =>
      e = .returned (.int .i64 ((K + n : Nat) : Int)) ∧ Own1 TN w' B (.slice (some ⟨g, 0, none⟩) n c) (icells (mk K n)) ∧ w.grownBy w' (some g) := by
  have HO := Lib.hid ho; clear ho
  have HN := Lib.hid hn; clear hn
  go_enter Try.func28, Try.ntmps28
  go_wp2
  go_loopw [1, 5] (fun k i wr => ∃ q : Nat, q ≤ n ∧ i = .int .i64 q ∧ k = .int .i64 ((K : Int) + q) ∧ Own1 TN wr B (.slice (some ⟨g, 0, none⟩) n c) (icells (mk K q ++ x.drop q)) ∧ w.grownBy wr (some g)) (fun _ i _ => n - (intOf i).toNat)
  case atStart => exact ⟨0, Nat.zero_le _, rfl, by simp, by simpa [mk] using HO.out, World.grownBy.refl w _⟩
  case round =>
    obtain ⟨q, hq, rfl, rfl, ho, hg⟩ := hrel
    clear HO
    have HO := Lib.hid ho; clear ho
    have HG := Lib.hid hg; clear hg
    by_cases hlt : q < n
    · have hqi : (q : Int) < (n : Int) := by omega
      have hqx : q < x.length := by rw [← HN.out]; exact hlt
      have hk : q < (icells (mk K q ++ x.drop q)).length := by rw [icells_len]; simp [mk_len]; omega
      have f0 := (HO.out.cellAt q hk).2
      have hcell := (HO.out.cellAt q hk).1
      obtain ⟨u, hu⟩ : ∃ u, (icells (mk K q ++ x.drop q))[q]? = some u := ⟨_, List.getElem?_eq_getElem hk⟩
      rw [hu] at hcell
      have hs := HO.out.setAt q (.int .i64 ((K + q : Nat) : Int))
      rw [mk_set x K q hqx] at hs
      have e : ((K + q : Nat) : Int) = (K : Int) + q := by simp
      rw [e] at hs
      have HS := Lib.hid hs
      clear hs hu hk hqx e
      go_wp2
      go_roundw
      case rel => exact ⟨q + 1, by omega, by go_num, by go_num, HS.out, grown_set HG.out (.inl rfl) _⟩
      case measure => simp [intOf]; omega
    · go_wp2
      go_ret
      have h := HO.out
      have e : q = n := by omega
      rw [List.drop_eq_nil_of_le (by rw [← HN.out]; omega), List.append_nil, e] at h
      exact ⟨reti (by omega), h, HG.out⟩
theorem markI_any (x : List Int) (v : Value) (B : Nat) (w : World) (ho : Own1 TN w B v (icells x)) (K : Nat) (hl : K + x.length ≤ 300000000) :
    Calls Try.prog 28 #[v, .int .i64 K] w fun e w' => e = .returned (.int .i64 ((K + x.length : Nat) : Int)) ∧ Own1 TN w' B v (icells (mk K x.length)) ∧ w.grownBy w' v.ownBlock := by
  rcases id ho.2 with ⟨rfl, h0⟩ | ⟨g, cap, cur, rfl, _⟩
  · rw [icells_len] at h0
    obtain rfl : x = [] := List.eq_nil_of_length_eq_zero h0
    clear ho h0 hl
    go_enter Try.func28, Try.ntmps28
    go_wp2
    go_loopw [1, 5] (fun k i wr => i = .int .i64 0 ∧ k = .int .i64 K ∧ wr = w) (fun _ _ _ => 0)
    case atStart => exact ⟨rfl, rfl, rfl⟩
    case round =>
      obtain ⟨rfl, rfl, rfl⟩ := hrel
      go_wp2
      go_ret
      exact ⟨by simp, own1_nil _ B _, World.grownBy.refl _ _⟩
  · rw [icells_len] at *
    exact markI_g x g cap B w _ rfl ho K hl
/-- All rows marked; the first k of them marked. -/
def cur (ll : List (List Int)) (k : Nat) : List (List Int) := (List.range ll.length).map fun i => if i < k then mk (1 + tot (ll.take i)) (ll.getD i []).length else ll.getD i []
theorem cur_len (ll : List (List Int)) (k : Nat) : (cur ll k).length = ll.length := by simp [cur]
theorem cur_get (ll : List (List Int)) (k i : Nat) (hi : i < ll.length) : (cur ll k).getD i [] = if i < k then mk (1 + tot (ll.take i)) (ll.getD i []).length else ll.getD i [] := by
  unfold cur; rw [List.getD_eq_getElem?_getD, List.getElem?_map, List.getElem?_range hi]; rfl
theorem cur_zero (ll : List (List Int)) : cur ll 0 = ll := by
  refine List.ext_getElem? fun i => ?_
  by_cases hi : i < ll.length
  · rw [cur, List.getElem?_map, List.getElem?_range hi]
    simp [List.getElem?_eq_getElem hi]
  · rw [List.getElem?_eq_none (by rw [cur_len]; omega), List.getElem?_eq_none (by omega)]
theorem Rws.mark {w w' : World} {B T k : Nat} {no : Option Nat} {hs : List Value} {ll : List (List Int)} (h : Rws w B T no hs (cur ll k)) (hk : k < ll.length)
    (ho : Own1 TN w' B (hs.getD k nilS) (icells (mk (1 + tot (ll.take k)) (ll.getD k []).length))) (hg : w.grownBy w' (hs.getD k nilS).ownBlock) (hT : T ≤ w.heap.size) : Rws w' B T no hs (cur ll (k + 1)) := by
  refine ⟨by rw [cur_len, h.1, cur_len], fun i hi => ?_, fun i j q hij hj e => h.2.2 i j q hij (by rw [cur_len] at *; exact hj) e⟩
  rw [cur_len] at hi
  obtain ⟨a1, a2⟩ := h.2.1 i (by rw [cur_len]; exact hi)
  refine ⟨?_, a2⟩
  rw [cur_get ll (k + 1) i hi]
  by_cases hik : i = k
  · subst hik; rw [if_pos (by omega)]; exact ho
  · have e : (if i < k + 1 then mk (1 + tot (ll.take i)) (ll.getD i []).length else ll.getD i []) = (cur ll k).getD i [] := by
      rw [cur_get ll k i hi]
      by_cases h2 : i < k
      · rw [if_pos (by omega), if_pos h2]
      · rw [if_neg (by omega), if_neg h2]
    rw [e]
    refine a1.same fun q eq => hg.block q (by have := (a2 q eq).1; omega) fun e2 => ?_
    rcases Nat.lt_or_gt_of_ne hik with hlt | hgt
    · exact h.2.2 i k q hlt (by rw [cur_len]; exact hk) eq e2.symm
    · exact h.2.2 k i q hgt (by rw [cur_len]; exact hi) e2.symm eq
set_option maxHeartbeats 400000 in
theorem markSS_any (ll : List (List Int)) (n : Nat) (hn : n = ll.length) (A : Option Addr) (c B T : Nat) (w : World) (ho : Mine w B T (.slice A n c) ll) (hl : tot ll ≤ 1048576) (hl2 : n ≤ 1048576) :
    Calls Try.prog 23 #[.slice A n c, .int .i64 1] w fun e w' => e = .returned (.int .i64 ((1 + tot ll : Nat) : Int)) ∧ Mine w' B T (.slice A n c) (cur ll n) ∧ Within w w' B T := by
  have HN := Lib.hid hn; clear hn
  obtain ⟨hT, hv, hs, h1, h2⟩ := ho
  have HV := Lib.hid hv
  have H1 := Lib.hid h1
  have H2 := Lib.hid h2
  have hhs : hs.length = n := by rw [h2.1, HN.out]
  clear hv h1 h2
  have HL := Lib.hid hhs; clear hhs
  go_enter Try.func23, Try.ntmps23
  go_wp2
  go_loopw [1, 5] (fun v i wr => ∃ k : Nat, k ≤ n ∧ i = .int .i64 k ∧ v = .int .i64 ((1 + tot (ll.take k) : Nat) : Int) ∧ Own1 TI wr B (.slice A n c) hs ∧ Rws wr B T (Value.slice A n c).ownBlock hs (cur ll k) ∧ Within w wr B T ∧ T ≤ wr.heap.size) (fun _ i _ => n - (intOf i).toNat)
  case atStart => exact ⟨0, Nat.zero_le _, rfl, by simp [tot], H1.out, by rw [cur_zero]; exact H2.out, Within.refl _ _ _, hT⟩
  case round =>
    obtain ⟨k, hk, rfl, rfl, ho, hrw, hwi, hT2⟩ := hrel
    clear H1 H2
    have H1 := Lib.hid ho
    have H2 := Lib.hid hrw
    have HW := Lib.hid hwi
    clear ho hrw hwi
    by_cases hlt : k < n
    · have hki : (k : Int) < (n : Int) := by omega
      have hkl : k < ll.length := by rw [← HN.out]; exact hlt
      obtain ⟨g, c', hsl, c0, _⟩ := H1.out.slot k (by rw [HL.out]; exact hlt)
      injection hsl with e1 e2 e3
      subst e1
      clear e2 e3
      obtain ⟨a1, a2⟩ := H2.out.2.1 k (by rw [cur_len]; exact hkl)
      rw [cur_get ll k k hkl, if_neg (by omega)] at a1
      have hh : hs[k]? = some (hs.getD k nilS) := by rw [List.getD_eq_getElem?_getD, List.getElem?_eq_getElem (by rw [HL.out]; exact hlt)]; rfl
      rw [hh] at c0
      have HM := Lib.hid (fun (w' : World) => Rws.mark (w' := w') H2.out hkl)
      have HTT := Lib.hid (tot_take ll k hkl)
      have HTA := Lib.hid (tot_le ll (k + 1))
      have HA2 := Lib.hid a2
      clear hh a2
      obtain ⟨h, hh⟩ : ∃ h, hs.getD k nilS = h := ⟨_, rfl⟩
      rw [hh] at a1 c0 HM HA2
      clear hh
      obtain ⟨x, hx⟩ : ∃ x, ll.getD k [] = x := ⟨_, rfl⟩
      rw [hx] at a1 HM HTT
      clear hx
      obtain ⟨Ai, ci, hv2, _, _, _, _⟩ := a1.form
      rw [icells_len] at hv2
      subst hv2
      obtain ⟨q, hq⟩ : ∃ q, x.length = q := ⟨_, rfl⟩
      have HQ := Lib.hid hq
      obtain ⟨t, ht⟩ : ∃ t, 1 + tot (ll.take k) = t := ⟨_, rfl⟩
      have HTK := Lib.hid ht
      have HA1 := Lib.hid a1
      have hb : t + q ≤ 300000000 := by have h3 := HTT.out; have h4 := HTA.out; omega
      have htn : 1 + tot (ll.take (k + 1)) = t + q := by have h3 := HTT.out; omega
      have HTN := Lib.hid htn
      have HB := Lib.hid hb
      rw [ht] at HM ⊢
      clear a1 ht htn hb hkl
      rw [hq] at c0
      clear hq
      go_wp2_with fail
      refine ((by have h := markI_any x _ B wr HA1.out t (by rw [HQ.out]; exact HB.out); rw [HQ.out] at h; exact h) : Calls Try.prog 28 #[.slice Ai q ci, .int .i64 t] wr fun e w' => e = .returned (.int .i64 ((t + q : Nat) : Int)) ∧ Own1 TN w' B (.slice Ai q ci) (icells (mk t q)) ∧ wr.grownBy w' (Value.slice Ai q ci).ownBlock).mono ?_
      rintro e w2 ⟨rfl, ho2, hg2⟩
      have HO2 := Lib.hid ho2
      have HG2 := Lib.hid hg2
      have hz2 := hg2.size
      clear ho2 hg2
      go_wp2
      go_roundw
      case rel =>
        refine ⟨k + 1, by omega, by go_num, by rw [HTN.out]; go_num, ?_, ?_, ?_, by omega⟩
        · refine H1.out.same fun j e => HG2.out.block j (H1.out.ob j e).2 fun e2 => ?_
          have h5 := (HA2.out j (by rw [HQ.out]; exact e2.symm)).2
          exact h5 (by rw [e])
        · exact HM.out w2 (by rw [HQ.out]; exact HO2.out) (by rw [HQ.out]; exact HG2.out) hT2
        · refine HW.out.grown HG2.out fun j e => ?_
          exact ⟨(HA1.out.ob j (by rw [HQ.out]; exact e)).1, (HA2.out j (by rw [HQ.out]; exact e)).1⟩
      case measure => simp [intOf]; omega
    · have hkn : k = n := by omega
      subst hkn
      have ht : ll.take k = ll := List.take_of_length_le (by rw [← HN.out]; omega)
      rw [ht]
      go_wp2
      go_ret
      exact ⟨rfl, ⟨hT2, HV.out, hs, H1.out, H2.out⟩, HW.out⟩
end Go.Proofs.Ytmmabdioncgkoaa
