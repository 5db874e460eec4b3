/- Ladders in memory, by their value: what exact laws ask of them. Recodings by value: what exact laws ask of them. Masks in memory, by their value: what exact laws ask of them. -/
import Derived.Test.YtobgceebolmfcaaDoorEIA
import Derived.Test.YtobgceebolmfcaaDoorXP
import Derived.Test.YtobgceebolmfcaaDoorA6
import Derived.Test.YtobgceebolmfcaaDoorA2
import Derived.Test.YtobgceebolmfcaaDoorMW
import Derived.Test.YtobgceebolmfcaaDoorTM2
namespace Go.Proofs.YtobgceebolmfcaaDoor
open Go.RowKit
theorem szR_any (left : Int) (l0 : 0 ≤ left) (l1 : left ≤ 1048576) (ll : List (List Int)) (n : Nat) (hn : n = ll.length) (A : Option Addr) (c : Nat) (hl : ll.length ≤ maxLen) (w : World) (hr : LL w w.heap.size A ll) :
    Calls Tryd.prog 27 #[.slice A n c, .int .i64 left] w fun e w' => e = .returned (.int .i64 (szL (ll.length + tot ll) left)) ∧ w = w' := by
  have hl2 : n ≤ 2 ^ 63 - 1 := by rw [hn]; exact hl
  have HN := Lib.hid hn; clear hn
  by_cases hbig : (n : Int) ≤ left
  · go_enter Tryd.func27, Tryd.ntmps27
    go_wp2
    go_loopw [1, 5] (fun v i wr => ∃ k : Nat, k ≤ n ∧ i = .int .i64 k ∧ (n : Int) + tot (ll.take k) ≤ left ∧ v = .int .i64 (left - n - tot (ll.take k)) ∧ w = wr) (fun _ i _ => n - (intOf i).toNat)
    case atStart => exact ⟨0, Nat.zero_le _, rfl, by simp [tot]; omega, by simp [tot], rfl⟩
    case round =>
      obtain ⟨k, hk, rfl, hle, rfl, rfl⟩ := hrel
      by_cases hlt : k < n
      · have hki : (k : Int) < (n : Int) := by omega
        have hkl : k < ll.length := by rw [← HN.out]; exact hlt
        obtain ⟨b, o, Ai, ci, rfl, _, c0, g1, g2, r0⟩ := hr.at_ k hkl
        have HT := Lib.hid (tot_take ll k hkl)
        have HLE := Lib.hid (tot_le ll (k + 1))
        have HLX := Lib.hid (show (ll.getD k []).length ≤ maxLen by omega)
        clear r0 hkl
        obtain ⟨x, hx⟩ : ∃ x, (ll.getD k []).length = x := ⟨_, rfl⟩
        rw [hx] at c0 HT HLX
        clear hx g1 g2
        obtain ⟨q, hq⟩ : ∃ q, tot (ll.take k) = q := ⟨_, rfl⟩
        rw [hq] at hle HT ⊢
        clear hq
        go_wp2_with fail
        refine (szI_any x Ai ci _ HLX.out (by omega) (by omega) _).mono ?_
        rintro e w' ⟨rfl, rfl⟩
        by_cases hx : (x : Int) ≤ left - n - q
        · rw [if_pos hx]
          go_wp2
          go_roundw
          case rel => exact ⟨k + 1, by omega, by go_num, by rw [HT.out]; omega, by rw [HT.out]; first | rfl | (congr 1; omega), by first | rfl | trivial⟩
          case measure => simp [intOf]; omega
        · rw [if_neg hx]
          have HNO := Lib.hid (show szL (ll.length + tot ll) left = -1 by
            have h1 := HT.out; have h2 := HLE.out; have h3 := HN.out
            rw [szL, if_neg (by omega)])
          go_wp2
          go_ret
          exact ⟨reti HNO.out.symm, rfl⟩
      · have hkn : k = n := by omega
        have ht : ll.take k = ll := List.take_of_length_le (by rw [← HN.out]; omega)
        rw [ht] at hle ⊢
        have HYES := Lib.hid (show szL (ll.length + tot ll) left = left - n - tot ll by have h3 := HN.out; rw [szL, if_pos (by omega)]; omega)
        clear hkn ht
        obtain ⟨q, hq⟩ : ∃ q, tot ll = q := ⟨_, rfl⟩
        rw [hq] at hle ⊢
        have HQ := Lib.hid hq; clear hq
        go_wp2
        go_ret
        exact ⟨reti (by rw [HYES.out, HQ.out]), rfl⟩
  · have HNO := Lib.hid (show szL (ll.length + tot ll) left = -1 by have h3 := HN.out; rw [szL, if_neg (by omega)])
    go_enter Tryd.func27, Tryd.ntmps27
    go_wp2
    go_ret
    exact ⟨reti HNO.out.symm, rfl⟩
/-- All rows marked; the first k of them marked. -/
def curK (K : Nat) (ll : List (List Int)) (k : Nat) : List (List Int) := (List.range ll.length).map fun i => if i < k then mk (K + tot (ll.take i)) (ll.getD i []).length else ll.getD i []
theorem curK_len (K : Nat) (ll : List (List Int)) (k : Nat) : (curK K ll k).length = ll.length := by simp [curK]
theorem curK_get (K : Nat) (ll : List (List Int)) (k i : Nat) (hi : i < ll.length) : (curK K ll k).getD i [] = if i < k then mk (K + tot (ll.take i)) (ll.getD i []).length else ll.getD i [] := by
  unfold curK; rw [List.getD_eq_getElem?_getD, List.getElem?_map, List.getElem?_range hi]; rfl
theorem curK_zero (K : Nat) (ll : List (List Int)) : curK K ll 0 = ll := by
  refine List.ext_getElem? fun i => ?_
  by_cases hi : i < ll.length
  · rw [curK, List.getElem?_map, List.getElem?_range hi]
    simp [List.getElem?_eq_getElem hi]
  · rw [List.getElem?_eq_none (by rw [curK_len]; omega), List.getElem?_eq_none (by omega)]
theorem Rws.markK {w w' : World} {B T k K : Nat} {no : Option Nat} {hs : List Value} {ll : List (List Int)} (h : Rws w B T no hs (curK K ll k)) (hk : k < ll.length)
    (ho : Own1 TN w' B (hs.getD k nilS) (icells (mk (K + tot (ll.take k)) (ll.getD k []).length))) (hg : w.grownBy w' (hs.getD k nilS).ownBlock) (hT : T ≤ w.heap.size) : Rws w' B T no hs (curK K ll (k + 1)) := by
  refine ⟨by rw [curK_len, h.1, curK_len], fun i hi => ?_, fun i j q hij hj e => h.2.2 i j q hij (by rw [curK_len] at *; exact hj) e⟩
  rw [curK_len] at hi
  obtain ⟨a1, a2⟩ := h.2.1 i (by rw [curK_len]; exact hi)
  refine ⟨?_, a2⟩
  rw [curK_get K ll (k + 1) i hi]
  by_cases hik : i = k
  · subst hik; rw [if_pos (by omega)]; exact ho
  · have e : (if i < k + 1 then mk (K + tot (ll.take i)) (ll.getD i []).length else ll.getD i []) = (curK K ll k).getD i [] := by
      rw [curK_get K ll k i hi]
      by_cases h2 : i < k
      · rw [if_pos (by omega), if_pos h2]
      · rw [if_neg (by omega), if_neg h2]
    rw [e]
    refine a1.same fun q eq => hg.block q (by have := (a2 q eq).1; omega) fun e2 => ?_
    rcases Nat.lt_or_gt_of_ne hik with hlt | hgt
    · exact h.2.2 i k q hlt (by rw [curK_len]; exact hk) eq e2.symm
    · exact h.2.2 k i q hgt (by rw [curK_len]; exact hi) e2.symm eq
set_option maxHeartbeats 400000 in
theorem markKSS_any (K : Nat) (hK : K ≤ 100000000) (ll : List (List Int)) (n : Nat) (hn : n = ll.length) (A : Option Addr) (c B T : Nat) (w : World) (ho : Mine w B T (.slice A n c) ll) (hl : tot ll ≤ 1048576) (hl2 : n ≤ 1048576) :
    Calls Tryd.prog 33 #[.slice A n c, .int .i64 K] w fun e w' => e = .returned (.int .i64 ((K + tot ll : Nat) : Int)) ∧ Mine w' B T (.slice A n c) (curK K ll n) ∧ Within w w' B T := by
  have HN := Lib.hid hn; clear hn
  obtain ⟨hT, hv, hs, h1, h2⟩ := ho
  have HV := Lib.hid hv
  have H1 := Lib.hid h1
  have H2 := Lib.hid h2
  have hhs : hs.length = n := by rw [h2.1, HN.out]
  clear hv h1 h2
  have HL := Lib.hid hhs; clear hhs
  go_enter Tryd.func33, Tryd.ntmps33
  go_wp2
  go_loopw [1, 5] (fun v i wr => ∃ k : Nat, k ≤ n ∧ i = .int .i64 k ∧ v = .int .i64 ((K + tot (ll.take k) : Nat) : Int) ∧ Own1 TI wr B (.slice A n c) hs ∧ Rws wr B T (Value.slice A n c).ownBlock hs (curK K ll k) ∧ Within w wr B T ∧ T ≤ wr.heap.size) (fun _ i _ => n - (intOf i).toNat)
  case atStart => exact ⟨0, Nat.zero_le _, rfl, by simp [tot], H1.out, by rw [curK_zero]; exact H2.out, Within.refl _ _ _, hT⟩
  case round =>
    obtain ⟨k, hk, rfl, rfl, ho, hrw, hwi, hT2⟩ := hrel
    clear H1 H2
    have H1 := Lib.hid ho
    have H2 := Lib.hid hrw
    have HW := Lib.hid hwi
    clear ho hrw hwi
    by_cases hlt : k < n
    · have hki : (k : Int) < (n : Int) := by omega
      have hkl : k < ll.length := by rw [← HN.out]; exact hlt
      obtain ⟨g, c', hsl, c0, _⟩ := H1.out.slot k (by rw [HL.out]; exact hlt)
      injection hsl with e1 e2 e3
      subst e1
      clear e2 e3
      obtain ⟨a1, a2⟩ := H2.out.2.1 k (by rw [curK_len]; exact hkl)
      rw [curK_get K ll k k hkl, if_neg (by omega)] at a1
      have hh : hs[k]? = some (hs.getD k nilS) := by rw [List.getD_eq_getElem?_getD, List.getElem?_eq_getElem (by rw [HL.out]; exact hlt)]; rfl
      rw [hh] at c0
      have HM := Lib.hid (fun (w' : World) => Rws.markK (w' := w') H2.out hkl)
      have HTT := Lib.hid (tot_take ll k hkl)
      have HTA := Lib.hid (tot_le ll (k + 1))
      have HA2 := Lib.hid a2
      clear hh a2
      obtain ⟨h, hh⟩ : ∃ h, hs.getD k nilS = h := ⟨_, rfl⟩
      rw [hh] at a1 c0 HM HA2
      clear hh
      obtain ⟨x, hx⟩ : ∃ x, ll.getD k [] = x := ⟨_, rfl⟩
      rw [hx] at a1 HM HTT
      clear hx
      obtain ⟨Ai, ci, hv2, _, _, _, _⟩ := a1.form
      rw [icells_len] at hv2
      subst hv2
      obtain ⟨q, hq⟩ : ∃ q, x.length = q := ⟨_, rfl⟩
      have HQ := Lib.hid hq
      obtain ⟨t, ht⟩ : ∃ t, K + tot (ll.take k) = t := ⟨_, rfl⟩
      have HTK := Lib.hid ht
      have HA1 := Lib.hid a1
      have hb : t + q ≤ 300000000 := by have h3 := HTT.out; have h4 := HTA.out; omega
      have htn : K + tot (ll.take (k + 1)) = t + q := by have h3 := HTT.out; omega
      have HTN := Lib.hid htn
      have HB := Lib.hid hb
      rw [ht] at HM ⊢
      clear a1 ht htn hb hkl
      rw [hq] at c0
      clear hq
      go_wp2_with fail
      refine ((by have h := markI_any x _ B wr HA1.out t (by rw [HQ.out]; exact HB.out); rw [HQ.out] at h; exact h) : Calls Tryd.prog 63 #[.slice Ai q ci, .int .i64 t] wr fun e w' => e = .returned (.int .i64 ((t + q : Nat) : Int)) ∧ Own1 TN w' B (.slice Ai q ci) (icells (mk t q)) ∧ wr.grownBy w' (Value.slice Ai q ci).ownBlock).mono ?_
      rintro e w2 ⟨rfl, ho2, hg2⟩
      have HO2 := Lib.hid ho2
      have HG2 := Lib.hid hg2
      have hz2 := hg2.size
      clear ho2 hg2
      go_wp2
      go_roundw
      case rel =>
        refine ⟨k + 1, by omega, by go_num, by rw [HTN.out]; go_num, ?_, ?_, ?_, by omega⟩
        · refine H1.out.same fun j e => HG2.out.block j (H1.out.ob j e).2 fun e2 => ?_
          have h5 := (HA2.out j (by rw [HQ.out]; exact e2.symm)).2
          exact h5 (by rw [e])
        · exact HM.out w2 (by rw [HQ.out]; exact HO2.out) (by rw [HQ.out]; exact HG2.out) hT2
        · refine HW.out.grown HG2.out fun j e => ?_
          exact ⟨(HA1.out.ob j (by rw [HQ.out]; exact e)).1, (HA2.out j (by rw [HQ.out]; exact e)).1⟩
      case measure => simp [intOf]; omega
    · have hkn : k = n := by omega
      subst hkn
      have ht : ll.take k = ll := List.take_of_length_le (by rw [← HN.out]; omega)
      rw [ht]
      go_wp2
      go_ret
      exact ⟨rfl, ⟨hT2, HV.out, hs, H1.out, H2.out⟩, HW.out⟩
theorem szR_is (ll : List (List Int)) (v : Value) (left : Int) (h0 : 0 ≤ left) (h1 : left ≤ 1048576) (w : World) (h : IsR w v ll) :
    Calls Tryd.prog 27 #[v, .int .i64 left] w fun e w' => e = .returned (.int .i64 (szL (ll.length + tot ll) left)) ∧ w = w' := by
  obtain ⟨A, c, rfl, h2, h3, h4⟩ := h
  exact szR_any left h0 h1 ll _ rfl A c (Nat.le_trans h2 h3) w h4
theorem toR_is (ll : List (List Int)) (v : Value) (hl : ll.length + tot ll ≤ 1048576) (w : World) (h : IsR w v ll) :
    Calls Tryd.prog 29 #[v] w fun e w' => ∃ v', e = .returned v' ∧ InR w' w.heap.size w'.heap.size v' ll ∧ Below w.heap.size w w' := by
  obtain ⟨A, c, rfl, _, _, h3⟩ := h
  refine (toIntSS_any ll _ rfl A c (by simpa [fits] using hl) w h3).mono ?_
  rintro e w' ⟨g, he, hm, hb⟩
  exact ⟨_, he, hm, hb⟩
theorem eqR_is (ll : List (List Int)) (v u : Value) (w : World) (h1 : IsR w v ll) (h2 : IsR w u ll) :
    Calls Tryd.prog 32 #[v, u] w (Back (.bool true) w) := by
  obtain ⟨A, c, rfl, g1, g2, h3⟩ := h1
  obtain ⟨A2, c2, rfl, _, _, h4⟩ := h2
  exact eqR_below ll A A2 _ c c2 rfl (Nat.le_trans g1 g2) w h3 h4
theorem markR_in (K : Nat) (hK : K ≤ 100000000) (ll : List (List Int)) (v : Value) (B T : Nat) (hl : ll.length + tot ll ≤ 1048576) (w : World) (h : InR w B T v ll) :
    Calls Tryd.prog 33 #[v, .int .i64 K] w fun e w' => e = .returned (.int .i64 ((K + tot ll : Nat) : Int)) ∧ InR w' B T v (curK K ll ll.length) ∧ Within w w' B T := by
  obtain ⟨A, c, rfl⟩ := h.sl
  exact markKSS_any K hK ll _ rfl A c B T w h (by omega) (by omega)
end Go.Proofs.YtobgceebolmfcaaDoor
namespace Go.Proofs.YtobgceebolmfcaaDoor
open Go.RowKit
theorem eqR_arg (ll : List (List Int)) (v u : Value) (_hl : ll.length + tot ll ≤ 1048576) (w : World) (h1 : IsR w v ll) (h2 : IsR w u ll) : Calls Tryd.prog 32 #[v, u] w (Back (.bool true) w) := eqR_is ll v u w h1 h2
theorem eqR_res (ll : List (List Int)) (v u : Value) (_hl : ll.length + tot ll ≤ 1048576) (w : World) (h1 : IsR w v ll) (h2 : IsR w u ll) : Calls Tryd.prog 32 #[v, u] w (Back (.bool true) w) := eqR_is ll v u w h1 h2
end Go.Proofs.YtobgceebolmfcaaDoor
namespace Go.Proofs.YtobgceebolmfcaaDoor
open Go.RowKit
/-- A row anew, in one block of its own. -/
def CopiedB (x : List Bool) (n : Nat) (w : World) (e : Ending) (w' : World) : Prop := ∃ g, e = .returned (.slice (some ⟨g, 0, none⟩) n n) ∧ w.heap.size ≤ g ∧ Own1 TBo w' w.heap.size (.slice (some ⟨g, 0, none⟩) n n) (bcells x) ∧ Below w.heap.size w w'
theorem toBoolS_any (x : List Bool) (n : Nat) (hn : n = x.length) (A : Option Addr) (c : Nat) (hl : n ≤ 1048576) (w : World) (hr : Row w w.heap.size A (bcells x)) :
    Calls Tryd.prog 60 #[.slice A n c] w (CopiedB x n w) := by
  obtain ⟨ht, z, b, hi, hz1, hb8⟩ := one_BS
  obtain ⟨i0, hi0, hz0, hs0, hs1⟩ := info_parts (P := Tryd.prog) (e := TBo) (z := .bool false) (size := 1) (bytes := 1) (by kernel_rfl)
  clear ht hi hz1 hb8
  have HN := Lib.hid hn; clear hn
  go_enter Tryd.func60, Tryd.ntmps60
  go_wp2_with (at_make; go_loud (refine wpList_make_full _ rfl _ _ TBS rfl w.heap.size TBo i0 (.bool false) 1 Tryd.underlying31 hi0 hz0 hs0 _ _ _ _ n rfl rfl rfl rfl (by rw [hs1]; omega) (by simp only [maxLen]; omega) (Nat.le_refl _) ?_); intro w1 ho hg)
  have ho1 : Own1 TBo w1 w.heap.size (.slice (some ⟨w.heap.size, 0, none⟩) n n) ((bcells x).take 0 ++ List.replicate ((bcells x).length - 0) (.bool false)) := by
    have h := ho
    have e : (Value.bool false).cells = #[.bool false] := rfl
    rw [e, made_one] at h
    have hl : (bcells x).length = n := by rw [bcells_len, HN.out]
    unfold Own1
    simpa [hl] using h
  have HO := Lib.hid ho1
  have HB := Lib.hid (show Below w.heap.size w w1 from (Below.refl _ _).grown hg (Nat.le_refl _) (fun k hk => by cases hk))
  have hz := hg.size
  clear ho ho1 hg
  have hg1 := (HO.out.ob w.heap.size rfl).2
  obtain ⟨G, hG⟩ : ∃ G, w.heap.size = G := ⟨_, rfl⟩
  rw [hG] at HO HB hz hg1 hr ⊢
  have HG := Lib.hid hG; clear hG
  go_wp2
  go_loopw [4] (fun i wr => ∃ k : Nat, k ≤ n ∧ i = .int .i64 k ∧ Own1 TBo wr G (.slice (some ⟨G, 0, none⟩) n n) ((bcells x).take k ++ List.replicate ((bcells x).length - k) (.bool false)) ∧ Below G w wr) (fun i _ => n - (intOf i).toNat)
  case atStart => exact ⟨0, Nat.zero_le _, rfl, HO.out, HB.out⟩
  case round =>
    obtain ⟨k, hk, rfl, ho, hb⟩ := hrel
    clear HO HB
    have HO := Lib.hid ho; clear ho
    have HLX := Lib.hid (show (bcells x).length = n by rw [bcells_len, HN.out])
    by_cases hlt : k < n
    · have hki : (k : Int) < (n : Int) := by omega
      obtain ⟨b, o, rfl, hbw, c0⟩ := (hr.below hb (Nat.le_refl _)).bool_ k (by rw [← HN.out]; exact hlt)
      have hkl : k < ((bcells x).take k ++ List.replicate ((bcells x).length - k) (Value.bool false)).length := by simp [HLX.out]; omega
      have f0 := (HO.out.cellAt k hkl).2
      have hkx : k < (bcells x).length := by rw [HLX.out]; exact hlt
      have hs := HO.out.setAt k (.bool (x.getD k false))
      have hxk : (bcells x)[k] = .bool (x.getD k false) := by
        have h := bcells_get (x := x) (k := k) (by rw [← HN.out]; exact hlt)
        rw [List.getElem?_eq_getElem hkx] at h; injection h
      rw [← hxk, set_midv (bcells x) _ k hkx, hxk] at hs
      have HS := Lib.hid hs
      have hcell := (HO.out.cellAt k hkl).1
      obtain ⟨u, hu⟩ : ∃ u, ((bcells x).take k ++ List.replicate ((bcells x).length - k) (Value.bool false))[k]? = some u := ⟨_, List.getElem?_eq_getElem hkl⟩
      rw [hu] at hcell
      clear hs hkl hkx hxk hu
      generalize x.getD k false = y at *
      go_wp2
      go_roundw
      case rel => exact ⟨k + 1, by omega, by go_num, HS.out, hb.setCell (p := ⟨G, k, none⟩) (Nat.le_refl G) _⟩
      case measure => simp [intOf]; omega
    · go_wp2
      go_ret
      have h := HO.out
      rw [List.take_of_length_le (by rw [HLX.out]; omega), show (bcells x).length - k = 0 by rw [HLX.out]; omega, List.replicate_zero, List.append_nil] at h
      exact ⟨G, rfl, Nat.le_of_eq HG.out, by rw [HG.out]; exact h, by rw [HG.out]; exact hb⟩
def totM (ll : List (List Bool)) : Nat := (ll.map List.length).sum
theorem totM_take (ll : List (List Bool)) (k : Nat) (hk : k < ll.length) : totM (ll.take (k + 1)) = totM (ll.take k) + (ll.getD k []).length := by
  unfold totM
  rw [List.take_succ_eq_append_getElem hk, List.map_append, List.sum_append, List.getD_eq_getElem?_getD, List.getElem?_eq_getElem hk]; simp
theorem totM_le (ll : List (List Bool)) (k : Nat) : totM (ll.take k) ≤ totM ll := by
  have h : totM ll = totM (ll.take k) + totM (ll.drop k) := by unfold totM; rw [← List.sum_append, ← List.map_append, List.take_append_drop]
  omega
theorem totM_at (ll : List (List Bool)) (k : Nat) (hk : k < ll.length) : (ll.getD k []).length ≤ totM ll := by
  have h1 := totM_take ll k hk
  have h2 := totM_le ll (k + 1)
  omega
theorem szB_any (n : Nat) (A : Option Addr) (c : Nat) (left : Int) (hn : n ≤ maxLen) (h0 : 0 ≤ left) (h1 : left ≤ 1048576) (w : World) :
    Calls Tryd.prog 58 #[.slice A n c, .int .i64 left] w fun e w' => e = .returned (.int .i64 (if (n : Int) ≤ left then left - n else -1)) ∧ w = w' := by
  unfold maxLen at hn
  by_cases h : (n : Int) ≤ left
  · go_enter Tryd.func58, Tryd.ntmps58
    go_wp2
    go_ret
    exact ⟨rfl, rfl⟩
  · go_enter Tryd.func58, Tryd.ntmps58
    go_wp2
    go_ret
    exact ⟨rfl, rfl⟩
def fitsM (ll : List (List Bool)) : Bool := decide (ll.length + totM ll ≤ 1048576)
set_option maxHeartbeats 400000 in
theorem toBoolSS_any (ll : List (List Bool)) (n : Nat) (hn : n = ll.length) (A : Option Addr) (c : Nat) (hf : fitsM ll = true) (w : World) (hr : LB w w.heap.size A ll) :
    Calls Tryd.prog 30 #[.slice A n c] w fun e w' => ∃ g, e = .returned (.slice (some ⟨g, 0, none⟩) n n) ∧ MineB w' w.heap.size w'.heap.size (.slice (some ⟨g, 0, none⟩) n n) ll ∧ Below w.heap.size w w' := by
  obtain ⟨i0, hi0, hz0, hs0, hs1⟩ := info_parts (P := Tryd.prog) (e := TBS) (z := .slice none 0 0) (size := 1) (bytes := 24) (by kernel_rfl)
  have hfl : ll.length + totM ll ≤ 1048576 := by simpa [fitsM] using hf
  have hnl : n ≤ 1048576 := by omega
  have HN := Lib.hid hn; clear hn
  have HF := Lib.hid hfl; clear hfl hf
  go_enter Tryd.func30, Tryd.ntmps30
  go_wp2_with (at_make; go_loud (refine wpList_make_full _ rfl _ _ TBSS rfl w.heap.size TBS i0 (.slice none 0 0) 1 Tryd.underlying24 hi0 hz0 hs0 _ _ _ _ n rfl rfl rfl rfl (by rw [hs1]; omega) (by simp only [maxLen]; omega) (Nat.le_refl _) ?_); intro w1 ho hg)
  have ho1 : Own1 TBS w1 w.heap.size (.slice (some ⟨w.heap.size, 0, none⟩) n n) ([] ++ List.replicate (n - 0) nilS) := by
    have h := ho
    have e : (Value.slice none 0 0).cells = #[.slice none 0 0] := rfl
    rw [e, made_one] at h
    unfold Own1
    simpa using h
  have HO := Lib.hid ho1
  have HB := Lib.hid (show Below w.heap.size w w1 from (Below.refl _ _).grown hg (Nat.le_refl _) (fun k hk => by cases hk))
  have hz := hg.size
  clear ho ho1 hg
  have hg1 := (HO.out.ob w.heap.size rfl).2
  obtain ⟨G, hG⟩ : ∃ G, w.heap.size = G := ⟨_, rfl⟩
  rw [hG] at HO HB hz hg1 hr ⊢
  have HG := Lib.hid hG; clear hG
  go_wp2
  go_loopw [4] (fun i wr => ∃ k : Nat, ∃ hs, k ≤ n ∧ i = .int .i64 k ∧ Own1 TBS wr G (.slice (some ⟨G, 0, none⟩) n n) (hs ++ List.replicate (n - k) nilS) ∧ RwsB wr G wr.heap.size (some G) hs (ll.take k) ∧ Below G w wr) (fun i _ => n - (intOf i).toNat)
  case atStart => exact ⟨0, [], Nat.zero_le _, rfl, HO.out, RwsB.nil _ _ _ _, HB.out⟩
  case round =>
    obtain ⟨k, hs, hk, rfl, ho, hrw, hb⟩ := hrel
    clear HO HB
    have HO := Lib.hid ho; clear ho
    have HR := Lib.hid hrw; clear hrw
    by_cases hlt : k < n
    · have hki : (k : Int) < (n : Int) := by omega
      have hkl : k < ll.length := by rw [← HN.out]; exact hlt
      obtain ⟨b, o, Ai, ci, rfl, hbw, c0, h1, h2, r0⟩ := (hr.below hb (Nat.le_refl _)).at_ k hkl
      have hx6 : (ll.getD k []).length ≤ 1048576 := by have := totM_at ll k hkl; have := HF.out; omega
      have HT := Lib.hid (show ll.take (k + 1) = ll.take k ++ [ll.getD k []] by rw [List.take_succ_eq_append_getElem hkl, List.getD_eq_getElem?_getD, List.getElem?_eq_getElem hkl]; rfl)
      obtain ⟨x, hx⟩ : ∃ x, ll.getD k [] = x := ⟨_, rfl⟩
      rw [hx] at c0 h1 r0 hx6 HT
      clear hx
      obtain ⟨q, hq⟩ : ∃ q, q = x.length := ⟨_, rfl⟩
      rw [← hq] at c0 hx6
      have HQ := Lib.hid hq
      have hGz : G < wr.heap.size := (HO.out.ob G rfl).2
      have HR0 := Lib.hid (r0.more (B' := wr.heap.size) (by omega))
      clear hq h1 h2 r0
      go_wp2_with fail
      refine (toBoolS_any x q HQ.out Ai ci hx6 _ HR0.out).mono ?_
      rintro e w2 ⟨g, rfl, hg2, ho2, h2⟩
      have HO2 := Lib.hid (HO.out.below h2)
      have hhl : hs.length = k := by rw [HR.out.1]; simp; omega
      have hkk : k < (hs ++ List.replicate (n - k) nilS).length := by simp; omega
      have f0 := (HO2.out.cellAt k hkk).2
      have hcell := (HO2.out.cellAt k hkk).1
      have hu : (hs ++ List.replicate (n - k) nilS)[k]? = some nilS := by
        rw [List.getElem?_append_right (by omega), hhl, Nat.sub_self, List.getElem?_replicate, if_pos (by omega)]
      rw [hu] at hcell
      have hset := HO2.out.setAt k (.slice (some ⟨g, 0, none⟩) q q)
      have he : (hs ++ List.replicate (n - k) nilS).set k (.slice (some ⟨g, 0, none⟩) q q) = (hs ++ [.slice (some ⟨g, 0, none⟩) q q]) ++ List.replicate (n - (k + 1)) nilS := by
        have e : n - k = (n - (k + 1)) + 1 := by omega
        rw [e, List.replicate_succ, List.set_append_right _ _ (by omega), hhl, Nat.sub_self, List.set_cons_zero, List.append_assoc]; rfl
      rw [he] at hset
      have HSET := Lib.hid hset
      have hrw2 : RwsB (w2.setCell ⟨G, k, none⟩ (.slice (some ⟨g, 0, none⟩) q q)) G (w2.setCell ⟨G, k, none⟩ (.slice (some ⟨g, 0, none⟩) q q)).heap.size (some G) (hs ++ [.slice (some ⟨g, 0, none⟩) q q]) (ll.take (k + 1)) := by
        rw [HT.out]
        have hsz : (w2.setCell ⟨G, k, none⟩ (.slice (some ⟨g, 0, none⟩) q q)).heap.size = w2.heap.size := by simp [World.setCell]
        rw [hsz]
        refine RwsB.snoc (T := wr.heap.size) (HR.out.same fun j h1 h3 h4 => ?_) ?_ h2.size fun j e => ?_
        · exact (Below.heap_setCell w2 ⟨G, k, none⟩ _ j (fun e => h4 (by rw [e]))).trans (h2.block j h3)
        · refine (ho2.less (by omega)).same fun j e => Below.heap_setCell w2 ⟨G, k, none⟩ _ j ?_
          intro e2; have := (ho2.ob j e).1; simp at e2; omega
        · have h3 := ho2.ob j e
          exact ⟨h3.1, h3.2, fun e2 => by injection e2 with e2; omega⟩
      have HRW2 := Lib.hid hrw2
      have hb2 := Lib.hid (hb.trans (h2.mono (by omega)))
      clear hset hrw2 hu he hkk hhl ho2 h2 HR0
      go_wp2
      go_roundw
      case rel => exact ⟨k + 1, _, by omega, by go_num, HSET.out, HRW2.out, hb2.out.setCell (p := ⟨G, k, none⟩) (Nat.le_refl G) _⟩
      case measure => simp [intOf]; omega
    · go_wp2
      go_ret
      have hkn : k = n := by omega
      subst hkn
      have h := HO.out
      rw [Nat.sub_self, List.replicate_zero, List.append_nil] at h
      have h2 := HR.out
      rw [List.take_of_length_le (by rw [← HN.out]; omega)] at h2
      exact ⟨G, rfl, by rw [HG.out]; exact ⟨Nat.le_refl _, fun j e => (h.ob j e).2, hs, h, h2⟩, by rw [HG.out]; exact hb⟩
theorem eqB_at (x : List Bool) (A B : Option Addr) (n1 n2 c d : Nat) (h1 : n1 = x.length) (h2 : n2 = x.length) (hl : x.length ≤ maxLen) (w : World) (ha : Row w w.heap.size A (bcells x)) (hb : Row w w.heap.size B (bcells x)) :
    Calls Tryd.prog 61 #[.slice A n1 c, .slice B n2 d] w (QR (.bool true) w) := by
  obtain rfl : n2 = n1 := by omega
  have H1 := Lib.hid h1
  have hl2 : n2 ≤ 2 ^ 63 - 1 := by rw [h1]; exact hl
  clear h1 h2 hl
  go_enter Tryd.func61, Tryd.ntmps61
  go_wp2
  go_loopw [5] (fun i wr => ∃ k m : Nat, k ≤ n2 ∧ i = .int .i64 k ∧ wr = w.drewN m) (fun i _ => n2 - (intOf i).toNat)
  case atStart => exact ⟨0, 0, Nat.zero_le _, rfl, rfl⟩
  case round =>
    obtain ⟨k, m, hk, rfl, hw⟩ := hrel
    have HW := Lib.hid hw; clear hw
    by_cases hlt : k < n2
    · have hki : (k : Int) < (n2 : Int) := by omega
      obtain ⟨b, o, rfl, _, c0⟩ := ha.bool_ k (by rw [← H1.out]; exact hlt)
      obtain ⟨b2, o2, rfl, _, c1⟩ := hb.bool_ k (by rw [← H1.out]; exact hlt)
      have c0' : wr.cell? ⟨b, o + k, none⟩ = some (.bool (x.getD k false)) := by rw [HW.out]; exact c0
      have c1' : wr.cell? ⟨b2, o2 + k, none⟩ = some (.bool (x.getD k false)) := by rw [HW.out]; exact c1
      clear c0 c1 ha hb
      generalize x.getD k false = y at *
      go_wp2
      go_quiet (fail)
      go_wp2
      go_roundw
      case rel => exact ⟨k + 1, m + nq, by omega, by go_num, by rw [HW.out, World.drewN_drewN]⟩
      case measure => simp [intOf]; omega
    · go_wp2
      go_ret
      exact ⟨rfl, m, HW.out⟩
theorem eqM_at (ll : List (List Bool)) (A B : Option Addr) (n1 n2 c d : Nat) (h1 : n1 = ll.length) (h2 : n2 = ll.length) (hl : ll.length ≤ maxLen) (w : World) (ha : LB w w.heap.size A ll) (hb : LB w w.heap.size B ll) :
    Calls Tryd.prog 31 #[.slice A n1 c, .slice B n2 d] w (QR (.bool true) w) := by
  obtain rfl : n2 = n1 := by omega
  have H1 := Lib.hid h1
  have hl2 : n2 ≤ 2 ^ 63 - 1 := by rw [h1]; exact hl
  clear h1 h2 hl
  go_enter Tryd.func31, Tryd.ntmps31
  go_wp2
  go_loopw [5] (fun i wr => ∃ k m : Nat, k ≤ n2 ∧ i = .int .i64 k ∧ wr = w.drewN m) (fun i _ => n2 - (intOf i).toNat)
  case atStart => exact ⟨0, 0, Nat.zero_le _, rfl, rfl⟩
  case round =>
    obtain ⟨k, m, hk, rfl, hw⟩ := hrel
    have HW := Lib.hid hw; clear hw
    by_cases hlt : k < n2
    · have hki : (k : Int) < (n2 : Int) := by omega
      obtain ⟨b, o, Ai, ci, rfl, _, c0, g1, g2, r0⟩ := ha.at_ k (by rw [← H1.out]; exact hlt)
      obtain ⟨b2, o2, Aj, cj, rfl, _, c1, g3, g4, r1⟩ := hb.at_ k (by rw [← H1.out]; exact hlt)
      have c0' : wr.cell? ⟨b, o + k, none⟩ = some (.slice Ai (ll.getD k []).length ci) := by rw [HW.out]; exact c0
      have c1' : wr.cell? ⟨b2, o2 + k, none⟩ = some (.slice Aj (ll.getD k []).length cj) := by rw [HW.out]; exact c1
      have r0' : Row wr wr.heap.size Ai (bcells (ll.getD k [])) := by rw [HW.out]; exact r0
      have r1' : Row wr wr.heap.size Aj (bcells (ll.getD k [])) := by rw [HW.out]; exact r1
      have HLN := Lib.hid (Nat.le_trans g1 g2)
      clear c0 c1 ha hb r0 r1 g1 g2 g3 g4
      generalize ll.getD k [] = x at *
      obtain ⟨nx, hnx⟩ : ∃ nx, x.length = nx := ⟨_, rfl⟩
      rw [hnx] at c0' c1'
      have HNX := Lib.hid hnx; clear hnx
      go_wp2
      go_quiet ((go_at_call 61; refine Calls.quiet_of (eqB_at x _ _ nx nx _ _ HNX.out.symm HNX.out.symm HLN.out _ ?_ ?_); exact r0'; exact r1'))
      go_wp2
      go_roundw
      case rel => exact ⟨k + 1, m + nq, by omega, by go_num, by rw [HW.out, World.drewN_drewN]⟩
      case measure => simp [intOf]; omega
    · go_wp2
      go_ret
      exact ⟨rfl, m, HW.out⟩
theorem eqM_below (ll : List (List Bool)) (A B : Option Addr) (n c d : Nat) (h1 : n = ll.length) (hl : ll.length ≤ maxLen) (w : World) (ha : LB w w.heap.size A ll) (hb : LB w w.heap.size B ll) :
    Calls Tryd.prog 31 #[.slice A n c, .slice B n d] w fun e w' => e = .returned (.bool true) ∧ Below w.heap.size w w' :=
  (eqM_at ll A B n n c d h1 h1 hl w ha hb).mono fun e w' ⟨he, m, hw⟩ => ⟨he, by rw [hw]; exact below_draws (Below.refl _ _) m⟩
theorem szM_any (left : Int) (l0 : 0 ≤ left) (l1 : left ≤ 1048576) (ll : List (List Bool)) (n : Nat) (hn : n = ll.length) (A : Option Addr) (c : Nat) (hl : ll.length ≤ maxLen) (w : World) (hr : LB w w.heap.size A ll) :
    Calls Tryd.prog 28 #[.slice A n c, .int .i64 left] w fun e w' => e = .returned (.int .i64 (szL (ll.length + totM ll) left)) ∧ w = w' := by
  have hl2 : n ≤ 2 ^ 63 - 1 := by rw [hn]; exact hl
  have HN := Lib.hid hn; clear hn
  by_cases hbig : (n : Int) ≤ left
  · go_enter Tryd.func28, Tryd.ntmps28
    go_wp2
    go_loopw [1, 5] (fun v i wr => ∃ k : Nat, k ≤ n ∧ i = .int .i64 k ∧ (n : Int) + totM (ll.take k) ≤ left ∧ v = .int .i64 (left - n - totM (ll.take k)) ∧ w = wr) (fun _ i _ => n - (intOf i).toNat)
    case atStart => exact ⟨0, Nat.zero_le _, rfl, by simp [totM]; omega, by simp [totM], rfl⟩
    case round =>
      obtain ⟨k, hk, rfl, hle, rfl, rfl⟩ := hrel
      by_cases hlt : k < n
      · have hki : (k : Int) < (n : Int) := by omega
        have hkl : k < ll.length := by rw [← HN.out]; exact hlt
        obtain ⟨b, o, Ai, ci, rfl, _, c0, g1, g2, r0⟩ := hr.at_ k hkl
        have HT := Lib.hid (totM_take ll k hkl)
        have HLE := Lib.hid (totM_le ll (k + 1))
        have HLX := Lib.hid (show (ll.getD k []).length ≤ maxLen by omega)
        clear r0 hkl
        obtain ⟨x, hx⟩ : ∃ x, (ll.getD k []).length = x := ⟨_, rfl⟩
        rw [hx] at c0 HT HLX
        clear hx g1 g2
        obtain ⟨q, hq⟩ : ∃ q, totM (ll.take k) = q := ⟨_, rfl⟩
        rw [hq] at hle HT ⊢
        clear hq
        go_wp2_with fail
        refine (szB_any x Ai ci _ HLX.out (by omega) (by omega) _).mono ?_
        rintro e w' ⟨rfl, rfl⟩
        by_cases hx : (x : Int) ≤ left - n - q
        · rw [if_pos hx]
          go_wp2
          go_roundw
          case rel => exact ⟨k + 1, by omega, by go_num, by rw [HT.out]; omega, by rw [HT.out]; first | rfl | (congr 1; omega), by first | rfl | trivial⟩
          case measure => simp [intOf]; omega
        · rw [if_neg hx]
          have HNO := Lib.hid (show szL (ll.length + totM ll) left = -1 by
            have h1 := HT.out; have h2 := HLE.out; have h3 := HN.out
            rw [szL, if_neg (by omega)])
          go_wp2
          go_ret
          exact ⟨reti HNO.out.symm, rfl⟩
      · have hkn : k = n := by omega
        have ht : ll.take k = ll := List.take_of_length_le (by rw [← HN.out]; omega)
        rw [ht] at hle ⊢
        have HYES := Lib.hid (show szL (ll.length + totM ll) left = left - n - totM ll by have h3 := HN.out; rw [szL, if_pos (by omega)]; omega)
        clear hkn ht
        obtain ⟨q, hq⟩ : ∃ q, totM ll = q := ⟨_, rfl⟩
        rw [hq] at hle ⊢
        have HQ := Lib.hid hq; clear hq
        go_wp2
        go_ret
        exact ⟨reti (by rw [HYES.out, HQ.out]), rfl⟩
  · have HNO := Lib.hid (show szL (ll.length + totM ll) left = -1 by have h3 := HN.out; rw [szL, if_neg (by omega)])
    go_enter Tryd.func28, Tryd.ntmps28
    go_wp2
    go_ret
    exact ⟨reti HNO.out.symm, rfl⟩
theorem szM_is (ll : List (List Bool)) (v : Value) (left : Int) (h0 : 0 ≤ left) (h1 : left ≤ 1048576) (w : World) (h : IsM w v ll) :
    Calls Tryd.prog 28 #[v, .int .i64 left] w fun e w' => e = .returned (.int .i64 (szL (ll.length + totM ll) left)) ∧ w = w' := by
  obtain ⟨A, c, rfl, h2, h3, h4⟩ := h
  exact szM_any left h0 h1 ll _ rfl A c (Nat.le_trans h2 h3) w h4
theorem toM_is (ll : List (List Bool)) (v : Value) (hl : ll.length + totM ll ≤ 1048576) (w : World) (h : IsM w v ll) :
    Calls Tryd.prog 30 #[v] w fun e w' => ∃ v', e = .returned v' ∧ InM w' w.heap.size w'.heap.size v' ll ∧ Below w.heap.size w w' := by
  obtain ⟨A, c, rfl, _, _, h3⟩ := h
  refine (toBoolSS_any ll _ rfl A c (by simpa [fitsM] using hl) w h3).mono ?_
  rintro e w' ⟨g, he, hm, hb⟩
  exact ⟨_, he, hm, hb⟩
theorem eqM_is (ll : List (List Bool)) (v u : Value) (w : World) (h1 : IsM w v ll) (h2 : IsM w u ll) :
    Calls Tryd.prog 31 #[v, u] w (Back (.bool true) w) := by
  obtain ⟨A, c, rfl, g1, g2, h3⟩ := h1
  obtain ⟨A2, c2, rfl, _, _, h4⟩ := h2
  exact eqM_below ll A A2 _ c c2 rfl (Nat.le_trans g1 g2) w h3 h4

theorem eqM_arg (ll : Mk) (v u : Value) (_hl : ll.length + totM ll ≤ 1048576) (w : World) (h1 : IsM w v ll) (h2 : IsM w u ll) : Calls Tryd.prog 31 #[v, u] w (Back (.bool true) w) := eqM_is ll v u w h1 h2
end Go.Proofs.YtobgceebolmfcaaDoor
