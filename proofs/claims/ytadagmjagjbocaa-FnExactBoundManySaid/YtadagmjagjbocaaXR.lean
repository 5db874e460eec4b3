/- Ladders in memory, by their value: what exact laws ask of them. -/
import Derived.Test.YtadagmjagjbocaaEIA
import Derived.Test.YtadagmjagjbocaaXP
import Derived.Test.YtadagmjagjbocaaA6
namespace Go.Proofs.Ytadagmjagjbocaa
open Go.RowKit
theorem szR_any (left : Int) (l0 : 0 ≤ left) (l1 : left ≤ 1048576) (ll : List (List Int)) (n : Nat) (hn : n = ll.length) (A : Option Addr) (c : Nat) (hl : ll.length ≤ maxLen) (w : World) (hr : LL w w.heap.size A ll) :
    Calls Try.prog 8 #[.slice A n c, .int .i64 left] w fun e w' => e = .returned (.int .i64 (szL (ll.length + tot ll) left)) ∧ w = w' := by
  have hl2 : n ≤ 2 ^ 63 - 1 := by rw [hn]; exact hl
  have HN := Lib.hid hn; clear hn
  by_cases hbig : (n : Int) ≤ left
  · go_enter Try.func8, Try.ntmps8
    go_wp2
    go_loopw [1, 5] (fun v i wr => ∃ k : Nat, k ≤ n ∧ i = .int .i64 k ∧ (n : Int) + tot (ll.take k) ≤ left ∧ v = .int .i64 (left - n - tot (ll.take k)) ∧ w = wr) (fun _ i _ => n - (intOf i).toNat)
    case atStart => exact ⟨0, Nat.zero_le _, rfl, by simp [tot]; omega, by simp [tot], rfl⟩
    case round =>
      obtain ⟨k, hk, rfl, hle, rfl, rfl⟩ := hrel
      by_cases hlt : k < n
      · have hki : (k : Int) < (n : Int) := by omega
        have hkl : k < ll.length := by rw [← HN.out]; exact hlt
        obtain ⟨b, o, Ai, ci, rfl, _, c0, g1, g2, r0⟩ := hr.at_ k hkl
        have HT := Lib.hid (tot_take ll k hkl)
        have HLE := Lib.hid (tot_le ll (k + 1))
        have HLX := Lib.hid (show (ll.getD k []).length ≤ maxLen by omega)
        clear r0 hkl
        obtain ⟨x, hx⟩ : ∃ x, (ll.getD k []).length = x := ⟨_, rfl⟩
        rw [hx] at c0 HT HLX
        clear hx g1 g2
        obtain ⟨q, hq⟩ : ∃ q, tot (ll.take k) = q := ⟨_, rfl⟩
        rw [hq] at hle HT ⊢
        clear hq
        go_wp2_with fail
        refine (szI_any x Ai ci _ HLX.out (by omega) (by omega) _).mono ?_
        rintro e w' ⟨rfl, rfl⟩
        by_cases hx : (x : Int) ≤ left - n - q
        · rw [if_pos hx]
          go_wp2
          go_roundw
          case rel => exact ⟨k + 1, by omega, by go_num, by rw [HT.out]; omega, by rw [HT.out]; first | rfl | (congr 1; omega), by first | rfl | trivial⟩
          case measure => simp [intOf]; omega
        · rw [if_neg hx]
          have HNO := Lib.hid (show szL (ll.length + tot ll) left = -1 by
            have h1 := HT.out; have h2 := HLE.out; have h3 := HN.out
            rw [szL, if_neg (by omega)])
          go_wp2
          go_ret
          exact ⟨reti HNO.out.symm, rfl⟩
      · have hkn : k = n := by omega
        have ht : ll.take k = ll := List.take_of_length_le (by rw [← HN.out]; omega)
        rw [ht] at hle ⊢
        have HYES := Lib.hid (show szL (ll.length + tot ll) left = left - n - tot ll by have h3 := HN.out; rw [szL, if_pos (by omega)]; omega)
        clear hkn ht
        obtain ⟨q, hq⟩ : ∃ q, tot ll = q := ⟨_, rfl⟩
        rw [hq] at hle ⊢
        have HQ := Lib.hid hq; clear hq
        go_wp2
        go_ret
        exact ⟨reti (by rw [HYES.out, HQ.out]), rfl⟩
  · have HNO := Lib.hid (show szL (ll.length + tot ll) left = -1 by have h3 := HN.out; rw [szL, if_neg (by omega)])
    go_enter Try.func8, Try.ntmps8
    go_wp2
    go_ret
    exact ⟨reti HNO.out.symm, rfl⟩
/-- All rows marked; the first k of them marked. -/
def curK (K : Nat) (ll : List (List Int)) (k : Nat) : List (List Int) := (List.range ll.length).map fun i => if i < k then mk (K + tot (ll.take i)) (ll.getD i []).length else ll.getD i []
theorem curK_len (K : Nat) (ll : List (List Int)) (k : Nat) : (curK K ll k).length = ll.length := by simp [curK]
theorem curK_get (K : Nat) (ll : List (List Int)) (k i : Nat) (hi : i < ll.length) : (curK K ll k).getD i [] = if i < k then mk (K + tot (ll.take i)) (ll.getD i []).length else ll.getD i [] := by
  unfold curK; rw [List.getD_eq_getElem?_getD, List.getElem?_map, List.getElem?_range hi]; rfl
theorem curK_zero (K : Nat) (ll : List (List Int)) : curK K ll 0 = ll := by
  refine List.ext_getElem? fun i => ?_
  by_cases hi : i < ll.length
  · rw [curK, List.getElem?_map, List.getElem?_range hi]
    simp [List.getElem?_eq_getElem hi]
  · rw [List.getElem?_eq_none (by rw [curK_len]; omega), List.getElem?_eq_none (by omega)]
theorem Rws.markK {w w' : World} {B T k K : Nat} {no : Option Nat} {hs : List Value} {ll : List (List Int)} (h : Rws w B T no hs (curK K ll k)) (hk : k < ll.length)
    (ho : Own1 TN w' B (hs.getD k nilS) (icells (mk (K + tot (ll.take k)) (ll.getD k []).length))) (hg : w.grownBy w' (hs.getD k nilS).ownBlock) (hT : T ≤ w.heap.size) : Rws w' B T no hs (curK K ll (k + 1)) := by
  refine ⟨by rw [curK_len, h.1, curK_len], fun i hi => ?_, fun i j q hij hj e => h.2.2 i j q hij (by rw [curK_len] at *; exact hj) e⟩
  rw [curK_len] at hi
  obtain ⟨a1, a2⟩ := h.2.1 i (by rw [curK_len]; exact hi)
  refine ⟨?_, a2⟩
  rw [curK_get K ll (k + 1) i hi]
  by_cases hik : i = k
  · subst hik; rw [if_pos (by omega)]; exact ho
  · have e : (if i < k + 1 then mk (K + tot (ll.take i)) (ll.getD i []).length else ll.getD i []) = (curK K ll k).getD i [] := by
      rw [curK_get K ll k i hi]
      by_cases h2 : i < k
      · rw [if_pos (by omega), if_pos h2]
      · rw [if_neg (by omega), if_neg h2]
    rw [e]
    refine a1.same fun q eq => hg.block q (by have := (a2 q eq).1; omega) fun e2 => ?_
    rcases Nat.lt_or_gt_of_ne hik with hlt | hgt
    · exact h.2.2 i k q hlt (by rw [curK_len]; exact hk) eq e2.symm
    · exact h.2.2 k i q hgt (by rw [curK_len]; exact hi) e2.symm eq
theorem szR_is (ll : List (List Int)) (v : Value) (left : Int) (h0 : 0 ≤ left) (h1 : left ≤ 1048576) (w : World) (h : IsR w v ll) :
    Calls Try.prog 8 #[v, .int .i64 left] w fun e w' => e = .returned (.int .i64 (szL (ll.length + tot ll) left)) ∧ w = w' := by
  obtain ⟨A, c, rfl, h2, h3, h4⟩ := h
  exact szR_any left h0 h1 ll _ rfl A c (Nat.le_trans h2 h3) w h4
theorem toR_is (ll : List (List Int)) (v : Value) (hl : ll.length + tot ll ≤ 1048576) (w : World) (h : IsR w v ll) :
    Calls Try.prog 11 #[v] w fun e w' => ∃ v', e = .returned v' ∧ InR w' w.heap.size w'.heap.size v' ll ∧ Below w.heap.size w w' := by
  obtain ⟨A, c, rfl, _, _, h3⟩ := h
  refine (toIntSS_any ll _ rfl A c (by simpa [fits] using hl) w h3).mono ?_
  rintro e w' ⟨g, he, hm, hb⟩
  exact ⟨_, he, hm, hb⟩
theorem eqR_is (ll : List (List Int)) (v u : Value) (w : World) (h1 : IsR w v ll) (h2 : IsR w u ll) :
    Calls Try.prog 14 #[v, u] w (Back (.bool true) w) := by
  obtain ⟨A, c, rfl, g1, g2, h3⟩ := h1
  obtain ⟨A2, c2, rfl, _, _, h4⟩ := h2
  exact eqR_below ll A A2 _ c c2 rfl (Nat.le_trans g1 g2) w h3 h4
end Go.Proofs.Ytadagmjagjbocaa
