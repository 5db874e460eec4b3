/- Ladders in memory, by their value: what exact laws ask of them. Recodings by value: what exact laws ask of them. Masks in memory, by their value: what exact laws ask of them. -/
import Derived.Test.YtkdffgcmnanniaaEIA
import Derived.Test.YtkdffgcmnanniaaXP
import Derived.Test.YtkdffgcmnanniaaA6
import Derived.Test.YtkdffgcmnanniaaA2
import Derived.Test.YtkdffgcmnanniaaMW
import Derived.Test.YtkdffgcmnanniaaTM2
namespace Go.Proofs.Ytkdffgcmnanniaa
open Go.RowKit
theorem szR_any (left : Int) (l0 : 0 ≤ left) (l1 : left ≤ 1048576) (ll : List (List Int)) (n : Nat) (hn : n = ll.length) (A : Option Addr) (c : Nat) (hl : ll.length ≤ maxLen) (w : World) (hr : LL w w.heap.size A ll) :
    Calls Try.prog 26 #[.slice A n c, .int .i64 left] w fun e w' => e = .returned (.int .i64 (szL (ll.length + tot ll) left)) ∧ w = w' := by
  have hl2 : n ≤ 2 ^ 63 - 1 := by rw [hn]; exact hl
  have HN := Lib.hid hn; clear hn
  by_cases hbig : (n : Int) ≤ left
  · go_enter Try.func26, Try.ntmps26
    go_wp2
    go_loopw [1, 5] (fun v i wr => ∃ k : Nat, k ≤ n ∧ i = .int .i64 k ∧ (n : Int) + tot (ll.take k) ≤ left ∧ v = .int .i64 (left - n - tot (ll.take k)) ∧ w = wr) (fun _ i _ => n - (intOf i).toNat)
    case atStart => exact ⟨0, Nat.zero_le _, rfl, by simp [tot]; omega, by simp [tot], rfl⟩
    case round =>
      obtain ⟨k, hk, rfl, hle, rfl, rfl⟩ := hrel
      by_cases hlt : k < n
      · have hki : (k : Int) < (n : Int) := by omega
        have hkl : k < ll.length := by rw [← HN.out]; exact hlt
        obtain ⟨b, o, Ai, ci, rfl, _, c0, g1, g2, r0⟩ := hr.at_ k hkl
        have HT := Lib.hid (tot_take ll k hkl)
        have HLE := Lib.hid (tot_le ll (k + 1))
        have HLX := Lib.hid (show (ll.getD k []).length ≤ maxLen by omega)
        clear r0 hkl
        obtain ⟨x, hx⟩ : ∃ x, (ll.getD k []).length = x := ⟨_, rfl⟩
        rw [hx] at c0 HT HLX
        clear hx g1 g2
        obtain ⟨q, hq⟩ : ∃ q, tot (ll.take k) = q := ⟨_, rfl⟩
        rw [hq] at hle HT ⊢
        clear hq
        go_wp2_with fail
        refine (szI_any x Ai ci _ HLX.out (by omega) (by omega) _).mono ?_
        rintro e w' ⟨rfl, rfl⟩
        by_cases hx : (x : Int) ≤ left - n - q
        · rw [if_pos hx]
          go_wp2
          go_roundw
          case rel => exact ⟨k + 1, by omega, by go_num, by rw [HT.out]; omega, by rw [HT.out]; first | rfl | (congr 1; omega), by first | rfl | trivial⟩
          case measure => simp [intOf]; omega
        · rw [if_neg hx]
          have HNO := Lib.hid (show szL (ll.length + tot ll) left = -1 by
            have h1 := HT.out; have h2 := HLE.out; have h3 := HN.out
            rw [szL, if_neg (by omega)])
          go_wp2
          go_ret
          exact ⟨reti HNO.out.symm, rfl⟩
      · have hkn : k = n := by omega
        have ht : ll.take k = ll := List.take_of_length_le (by rw [← HN.out]; omega)
        rw [ht] at hle ⊢
        have HYES := Lib.hid (show szL (ll.length + tot ll) left = left - n - tot ll by have h3 := HN.out; rw [szL, if_pos (by omega)]; omega)
        clear hkn ht
        obtain ⟨q, hq⟩ : ∃ q, tot ll = q := ⟨_, rfl⟩
        rw [hq] at hle ⊢
        have HQ := Lib.hid hq; clear hq
        go_wp2
        go_ret
        exact ⟨reti (by rw [HYES.out, HQ.out]), rfl⟩
  · have HNO := Lib.hid (show szL (ll.length + tot ll) left = -1 by have h3 := HN.out; rw [szL, if_neg (by omega)])
    go_enter Try.func26, Try.ntmps26
    go_wp2
    go_ret
    exact ⟨reti HNO.out.symm, rfl⟩
/-- All rows marked; the first k of them marked. -/
def curK (K : Nat) (ll : List (List Int)) (k : Nat) : List (List Int) := (List.range ll.length).map fun i => if i < k then mk (K + tot (ll.take i)) (ll.getD i []).length else ll.getD i []
theorem curK_len (K : Nat) (ll : List (List Int)) (k : Nat) : (curK K ll k).length = ll.length := by simp [curK]
theorem curK_get (K : Nat) (ll : List (List Int)) (k i : Nat) (hi : i < ll.length) : (curK K ll k).getD i [] = if i < k then mk (K + tot (ll.take i)) (ll.getD i []).length else ll.getD i [] := by
  unfold curK; rw [List.getD_eq_getElem?_getD, List.getElem?_map, List.getElem?_range hi]; rfl
theorem curK_zero (K : Nat) (ll : List (List Int)) : curK K ll 0 = ll := by
  refine List.ext_getElem? fun i => ?_
  by_cases hi : i < ll.length
  · rw [curK, List.getElem?_map, List.getElem?_range hi]
    simp [List.getElem?_eq_getElem hi]
  · rw [List.getElem?_eq_none (by rw [curK_len]; omega), List.getElem?_eq_none (by omega)]
theorem Rws.markK {w w' : World} {B T k K : Nat} {no : Option Nat} {hs : List Value} {ll : List (List Int)} (h : Rws w B T no hs (curK K ll k)) (hk : k < ll.length)
    (ho : Own1 TN w' B (hs.getD k nilS) (icells (mk (K + tot (ll.take k)) (ll.getD k []).length))) (hg : w.grownBy w' (hs.getD k nilS).ownBlock) (hT : T ≤ w.heap.size) : Rws w' B T no hs (curK K ll (k + 1)) := by
  refine ⟨by rw [curK_len, h.1, curK_len], fun i hi => ?_, fun i j q hij hj e => h.2.2 i j q hij (by rw [curK_len] at *; exact hj) e⟩
  rw [curK_len] at hi
  obtain ⟨a1, a2⟩ := h.2.1 i (by rw [curK_len]; exact hi)
  refine ⟨?_, a2⟩
  rw [curK_get K ll (k + 1) i hi]
  by_cases hik : i = k
  · subst hik; rw [if_pos (by omega)]; exact ho
  · have e : (if i < k + 1 then mk (K + tot (ll.take i)) (ll.getD i []).length else ll.getD i []) = (curK K ll k).getD i [] := by
      rw [curK_get K ll k i hi]
      by_cases h2 : i < k
      · rw [if_pos (by omega), if_pos h2]
      · rw [if_neg (by omega), if_neg h2]
    rw [e]
    refine a1.same fun q eq => hg.block q (by have := (a2 q eq).1; omega) fun e2 => ?_
    rcases Nat.lt_or_gt_of_ne hik with hlt | hgt
    · exact h.2.2 i k q hlt (by rw [curK_len]; exact hk) eq e2.symm
    · exact h.2.2 k i q hgt (by rw [curK_len]; exact hi) e2.symm eq
set_option maxHeartbeats 400000 in
theorem markKSS_any (K : Nat) (hK : K ≤ 100000000) (ll : List (List Int)) (n : Nat) (hn : n = ll.length) (A : Option Addr) (c B T : Nat) (w : World) (ho : Mine w B T (.slice A n c) ll) (hl : tot ll ≤ 1048576) (hl2 : n ≤ 1048576) :
    Calls Try.prog 29 #[.slice A n c, .int .i64 K] w fun e w' => e = .returned (.int .i64 ((K + tot ll : Nat) : Int)) ∧ Mine w' B T (.slice A n c) (curK K ll n) ∧ Within w w' B T := by
  have HN := Lib.hid hn; clear hn
  obtain ⟨hT, hv, hs, h1, h2⟩ := ho
  have HV := Lib.hid hv
  have H1 := Lib.hid h1
  have H2 := Lib.hid h2
  have hhs : hs.length = n := by rw [h2.1, HN.out]
  clear hv h1 h2
  have HL := Lib.hid hhs; clear hhs
  go_enter Try.func29, Try.ntmps29
  go_wp2
  go_loopw [1, 5] (fun v i wr => ∃ k : Nat, k ≤ n ∧ i = .int .i64 k ∧ v = .int .i64 ((K + tot (ll.take k) : Nat) : Int) ∧ Own1 TI wr B (.slice A n c) hs ∧ Rws wr B T (Value.slice A n c).ownBlock hs (curK K ll k) ∧ Within w wr B T ∧ T ≤ wr.heap.size) (fun _ i _ => n - (intOf i).toNat)
  case atStart => exact ⟨0, Nat.zero_le _, rfl, by simp [tot], H1.out, by rw [curK_zero]; exact H2.out, Within.refl _ _ _, hT⟩
  case round =>
    obtain ⟨k, hk, rfl, rfl, ho, hrw, hwi, hT2⟩ := hrel
    clear H1 H2
    have H1 := Lib.hid ho
    have H2 := Lib.hid hrw
    have HW := Lib.hid hwi
    clear ho hrw hwi
    by_cases hlt : k < n
    · have hki : (k : Int) < (n : Int) := by omega
      have hkl : k < ll.length := by rw [← HN.out]; exact hlt
      obtain ⟨g, c', hsl, c0, _⟩ := H1.out.slot k (by rw [HL.out]; exact hlt)
      injection hsl with e1 e2 e3
      subst e1
      clear e2 e3
      obtain ⟨a1, a2⟩ := H2.out.2.1 k (by rw [curK_len]; exact hkl)
      rw [curK_get K ll k k hkl, if_neg (by omega)] at a1
      have hh : hs[k]? = some (hs.getD k nilS) := by rw [List.getD_eq_getElem?_getD, List.getElem?_eq_getElem (by rw [HL.out]; exact hlt)]; rfl
      rw [hh] at c0
      have HM := Lib.hid (fun (w' : World) => Rws.markK (w' := w') H2.out hkl)
      have HTT := Lib.hid (tot_take ll k hkl)
      have HTA := Lib.hid (tot_le ll (k + 1))
      have HA2 := Lib.hid a2
      clear hh a2
      obtain ⟨h, hh⟩ : ∃ h, hs.getD k nilS = h := ⟨_, rfl⟩
      rw [hh] at a1 c0 HM HA2
      clear hh
      obtain ⟨x, hx⟩ : ∃ x, ll.getD k [] = x := ⟨_, rfl⟩
      rw [hx] at a1 HM HTT
      clear hx
      obtain ⟨Ai, ci, hv2, _, _, _, _⟩ := a1.form
      rw [icells_len] at hv2
      subst hv2
      obtain ⟨q, hq⟩ : ∃ q, x.length = q := ⟨_, rfl⟩
      have HQ := Lib.hid hq
      obtain ⟨t, ht⟩ : ∃ t, K + tot (ll.take k) = t := ⟨_, rfl⟩
      have HTK := Lib.hid ht
      have HA1 := Lib.hid a1
      have hb : t + q ≤ 300000000 := by have h3 := HTT.out; have h4 := HTA.out; omega
      have htn : K + tot (ll.take (k + 1)) = t + q := by have h3 := HTT.out; omega
      have HTN := Lib.hid htn
      have HB := Lib.hid hb
      rw [ht] at HM ⊢
      clear a1 ht htn hb hkl
      rw [hq] at c0
      clear hq
      go_wp2_with fail
      refine ((by have h := markI_any x _ B wr HA1.out t (by rw [HQ.out]; exact HB.out); rw [HQ.out] at h; exact h) : Calls Try.prog 51 #[.slice Ai q ci, .int .i64 t] wr fun e w' => e = .returned (.int .i64 ((t + q : Nat) : Int)) ∧ Own1 TN w' B (.slice Ai q ci) (icells (mk t q)) ∧ wr.grownBy w' (Value.slice Ai q ci).ownBlock).mono ?_
      rintro e w2 ⟨rfl, ho2, hg2⟩
      have HO2 := Lib.hid ho2
      have HG2 := Lib.hid hg2
      have hz2 := hg2.size
      clear ho2 hg2
      go_wp2
      go_roundw
      case rel =>
        refine ⟨k + 1, by omega, by go_num, by rw [HTN.out]; go_num, ?_, ?_, ?_, by omega⟩
        · refine H1.out.same fun j e => HG2.out.block j (H1.out.ob j e).2 fun e2 => ?_
          have h5 := (HA2.out j (by rw [HQ.out]; exact e2.symm)).2
          exact h5 (by rw [e])
        · exact HM.out w2 (by rw [HQ.out]; exact HO2.out) (by rw [HQ.out]; exact HG2.out) hT2
        · refine HW.out.grown HG2.out fun j e => ?_
          exact ⟨(HA1.out.ob j (by rw [HQ.out]; exact e)).1, (HA2.out j (by rw [HQ.out]; exact e)).1⟩
      case measure => simp [intOf]; omega
    · have hkn : k = n := by omega
      subst hkn
      have ht : ll.take k = ll := List.take_of_length_le (by rw [← HN.out]; omega)
      rw [ht]
      go_wp2
      go_ret
      exact ⟨rfl, ⟨hT2, HV.out, hs, H1.out, H2.out⟩, HW.out⟩
theorem heldKSS_any (K : Nat) (hK : K ≤ 100000000) (ll : List (List Int)) (n : Nat) (hn : n = ll.length) (A : Option Addr) (c : Nat) (w : World) (hr : LL w w.heap.size A (curK K ll n)) (hl : tot ll ≤ 1048576) (hl2 : n ≤ 1048576) :
    Calls Try.prog 30 #[.slice A n c, .int .i64 K] w fun e w' => e = .returned (.int .i64 ((K + tot ll : Nat) : Int)) ∧ w = w' := by
  have HN := Lib.hid hn; clear hn
  go_enter Try.func30, Try.ntmps30
  go_wp2
  go_loopw [1, 5] (fun v i wr => ∃ k : Nat, k ≤ n ∧ i = .int .i64 k ∧ v = .int .i64 ((K + tot (ll.take k) : Nat) : Int) ∧ w = wr) (fun _ i _ => n - (intOf i).toNat)
  case atStart => exact ⟨0, Nat.zero_le _, rfl, by simp [tot], rfl⟩
  case round =>
    obtain ⟨k, hk, rfl, rfl, rfl⟩ := hrel
    by_cases hlt : k < n
    · have hki : (k : Int) < (n : Int) := by omega
      have hkl : k < ll.length := by rw [← HN.out]; exact hlt
      obtain ⟨b, o, Ai, ci, rfl, _, c0, _, _, r0⟩ := hr.at_ k (by rw [curK_len]; exact hkl)
      rw [curK_get K ll n k hkl, if_pos hlt] at c0 r0
      rw [mkx_len] at c0
      have HTT := Lib.hid (tot_take ll k hkl)
      have HTA := Lib.hid (tot_le ll (k + 1))
      obtain ⟨q, hq⟩ : ∃ q, (ll.getD k []).length = q := ⟨_, rfl⟩
      obtain ⟨t, ht⟩ : ∃ t, K + tot (ll.take k) = t := ⟨_, rfl⟩
      rw [hq] at c0 r0 HTT
      rw [ht] at r0 ⊢
      have hb : t + q ≤ 300000000 := by have h3 := HTT.out; have h4 := HTA.out; omega
      have htn : K + tot (ll.take (k + 1)) = t + q := by have h3 := HTT.out; omega
      have HTN := Lib.hid htn
      have HR := Lib.hid r0
      clear hq ht htn r0 hr hkl
      go_wp2_with fail
      refine (heldI_any t q Ai ci _ HR.out hb).mono ?_
      rintro e w' ⟨rfl, rfl⟩
      have h0 : ¬ ((t + q : Nat) : Int) < 0 := by omega
      have h1 : ¬ ((t : Int) + (q : Int)) < 0 := by omega
      go_wp2
      go_roundw
      case rel => exact ⟨k + 1, by omega, by go_num, by rw [HTN.out]; go_num, by first | rfl | trivial⟩
      case measure => simp [intOf]; omega
    · have hkn : k = n := by omega
      subst hkn
      have ht : ll.take k = ll := List.take_of_length_le (by rw [← HN.out]; omega)
      rw [ht]
      go_wp2
      go_ret
      exact ⟨rfl, rfl⟩
theorem szR_is (ll : List (List Int)) (v : Value) (left : Int) (h0 : 0 ≤ left) (h1 : left ≤ 1048576) (w : World) (h : IsR w v ll) :
    Calls Try.prog 26 #[v, .int .i64 left] w fun e w' => e = .returned (.int .i64 (szL (ll.length + tot ll) left)) ∧ w = w' := by
  obtain ⟨A, c, rfl, h2, h3, h4⟩ := h
  exact szR_any left h0 h1 ll _ rfl A c (Nat.le_trans h2 h3) w h4
theorem toR_is (ll : List (List Int)) (v : Value) (hl : ll.length + tot ll ≤ 1048576) (w : World) (h : IsR w v ll) :
    Calls Try.prog 27 #[v] w fun e w' => ∃ v', e = .returned v' ∧ InR w' w.heap.size w'.heap.size v' ll ∧ Below w.heap.size w w' := by
  obtain ⟨A, c, rfl, _, _, h3⟩ := h
  refine (toIntSS_any ll _ rfl A c (by simpa [fits] using hl) w h3).mono ?_
  rintro e w' ⟨g, he, hm, hb⟩
  exact ⟨_, he, hm, hb⟩
theorem eqR_is (ll : List (List Int)) (v u : Value) (w : World) (h1 : IsR w v ll) (h2 : IsR w u ll) :
    Calls Try.prog 28 #[v, u] w (Back (.bool true) w) := by
  obtain ⟨A, c, rfl, g1, g2, h3⟩ := h1
  obtain ⟨A2, c2, rfl, _, _, h4⟩ := h2
  exact eqR_below ll A A2 _ c c2 rfl (Nat.le_trans g1 g2) w h3 h4
theorem markR_in (K : Nat) (hK : K ≤ 100000000) (ll : List (List Int)) (v : Value) (B T : Nat) (hl : ll.length + tot ll ≤ 1048576) (w : World) (h : InR w B T v ll) :
    Calls Try.prog 29 #[v, .int .i64 K] w fun e w' => e = .returned (.int .i64 ((K + tot ll : Nat) : Int)) ∧ InR w' B T v (curK K ll ll.length) ∧ Within w w' B T := by
  obtain ⟨A, c, rfl⟩ := h.sl
  exact markKSS_any K hK ll _ rfl A c B T w h (by omega) (by omega)
theorem heldR_is (K : Nat) (hK : K ≤ 100000000) (ll : List (List Int)) (hl : ll.length + tot ll ≤ 1048576) (v : Value) (w : World) (h : IsR w v (curK K ll ll.length)) :
    Calls Try.prog 30 #[v, .int .i64 K] w fun e w' => e = .returned (.int .i64 ((K + tot ll : Nat) : Int)) ∧ w = w' := by
  obtain ⟨A, c, rfl, _, _, h3⟩ := h
  rw [curK_len]
  exact heldKSS_any K hK ll _ rfl A c w h3 (by omega) (by omega)
end Go.Proofs.Ytkdffgcmnanniaa
namespace Go.Proofs.Ytkdffgcmnanniaa
open Go.RowKit
theorem eqR_arg (ll : List (List Int)) (v u : Value) (_hl : ll.length + tot ll ≤ 1048576) (w : World) (h1 : IsR w v ll) (h2 : IsR w u ll) : Calls Try.prog 28 #[v, u] w (Back (.bool true) w) := eqR_is ll v u w h1 h2
theorem eqR_res (ll : List (List Int)) (v u : Value) (_hl : ll.length + tot ll ≤ 1048576) (w : World) (h1 : IsR w v ll) (h2 : IsR w u ll) : Calls Try.prog 28 #[v, u] w (Back (.bool true) w) := eqR_is ll v u w h1 h2
theorem heldR_res (K : Nat) (hK : K ≤ 100000000) (ll : List (List Int)) (hl : ll.length + tot ll ≤ 1048576) (v : Value) (w : World) (h : IsR w v (curK K ll ll.length)) :
    Calls Try.prog 30 #[v, .int .i64 K] w fun e w' => e = .returned (.int .i64 ((K + tot ll : Nat) : Int)) ∧ w = w' := heldR_is K hK ll hl v w h
end Go.Proofs.Ytkdffgcmnanniaa
namespace Go.Proofs.Ytkdffgcmnanniaa
open Go.RowKit
/-- A row anew, in one block of its own. -/
def CopiedB (x : List Bool) (n : Nat) (w : World) (e : Ending) (w' : World) : Prop := ∃ g, e = .returned (.slice (some ⟨g, 0, none⟩) n n) ∧ w.heap.size ≤ g ∧ Own1 TBo w' w.heap.size (.slice (some ⟨g, 0, none⟩) n n) (bcells x) ∧ Below w.heap.size w w'
def totM (ll : List (List Bool)) : Nat := (ll.map List.length).sum
theorem totM_take (ll : List (List Bool)) (k : Nat) (hk : k < ll.length) : totM (ll.take (k + 1)) = totM (ll.take k) + (ll.getD k []).length := by
  unfold totM
  rw [List.take_succ_eq_append_getElem hk, List.map_append, List.sum_append, List.getD_eq_getElem?_getD, List.getElem?_eq_getElem hk]; simp
theorem totM_le (ll : List (List Bool)) (k : Nat) : totM (ll.take k) ≤ totM ll := by
  have h : totM ll = totM (ll.take k) + totM (ll.drop k) := by unfold totM; rw [← List.sum_append, ← List.map_append, List.take_append_drop]
  omega
theorem totM_at (ll : List (List Bool)) (k : Nat) (hk : k < ll.length) : (ll.getD k []).length ≤ totM ll := by
  have h1 := totM_take ll k hk
  have h2 := totM_le ll (k + 1)
  omega
def fitsM (ll : List (List Bool)) : Bool := decide (ll.length + totM ll ≤ 1048576)
end Go.Proofs.Ytkdffgcmnanniaa
