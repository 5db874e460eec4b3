/- People in memory, by their value: what exact laws ask of them. -/
import Derived.Test.YtmmabdioncgkoaaE3
namespace Go.Proofs.Ytmmabdioncgkoaa
open Go.RowKit
/-- The numbers that marking writes. -/
def mpK (K q : Nat) : Pn := ⟨(K : Int) + 4 * q, (K : Int) + 4 * q + 1, (K : Int) + 4 * q + 2, (K : Int) + 4 * q + 3⟩
def marksK (K n : Nat) : List Pn := (List.range n).map (mpK K)
theorem marksK_len (K n : Nat) : (marksK K n).length = n := by simp [marksK]
theorem marksK_get (K n k : Nat) (hk : k < (marksK K n).length) : (marksK K n)[k] = mpK K k := by simp [marksK]
theorem markK_set (K : Nat) (l : List Pn) (q : Nat) (hq : q < l.length) : (marksK K q ++ l.drop q).set q (mpK K q) = marksK K (q + 1) ++ l.drop (q + 1) := by
  have hm := marksK_len K q
  rw [List.set_append_right _ _ (by omega), hm, Nat.sub_self, List.drop_eq_getElem_cons hq, List.set_cons_zero]
  simp [marksK, List.range_succ]
theorem own_noneX {w : World} (B : Nat) : Own w B (.slice none 0 0) [] := ⟨rfl, .inl ⟨rfl, rfl⟩⟩
theorem markK_g (K : Nat) (l : List Pn) (g c B : Nat) (w : World) (ho : Own w B (.slice (some ⟨g, 0, none⟩) l.length c) l) (hl : l.length ≤ 1048576) (hK : K ≤ 100000000) :
    Calls Try.prog 22 #[.slice (some ⟨g, 0, none⟩) l.length c, .int .i64 K] w fun e w' =>
      e = .returned (.int .i64 ((K : Int) + 4 * l.length)) ∧ Own w' B (.slice (some ⟨g, 0, none⟩) l.length c) (marksK K l.length) ∧ w.grownBy w' (some g) := by
  have HO := Lib.hid ho; clear ho
  go_enter Try.func22, Try.ntmps22
  go_wp2
  go_loopw [1, 5] (fun k i wr => ∃ q : Nat, q ≤ l.length ∧ i = .int .i64 q ∧ k = .int .i64 ((K : Int) + 4 * q) ∧ Own wr B (.slice (some ⟨g, 0, none⟩) l.length c) (marksK K q ++ l.drop q) ∧ w.grownBy wr (some g)) (fun _ i _ => l.length - (intOf i).toNat)
  case atStart => exact ⟨0, Nat.zero_le _, rfl, by simp, by simpa [marksK] using HO.out, World.grownBy.refl w _⟩
  case round =>
    obtain ⟨q, hq, rfl, rfl, ho, hg⟩ := hrel
    clear HO
    have HO := Lib.hid ho; clear ho
    have HG := Lib.hid hg; clear hg
    by_cases hlt : q < l.length
    · have hk : q < (marksK K q ++ l.drop q).length := by simp [marksK_len]; omega
      obtain ⟨_, _, _, _, hfr⟩ := HO.out.cellAt q hk
      have f0 := hfr (q * 4); have f1 := hfr (q * 4 + 1); have f2 := hfr (q * 4 + 2); have f3 := hfr (q * 4 + 3)
      have hs := HO.out.setAt q hk (mpK K q)
      rw [markK_set K l q hlt] at hs
      have HS := Lib.hid hs
      clear hs hfr
      go_wp2
      go_roundw
      case rel => exact ⟨q + 1, by omega, by go_num, by go_num, HS.out, grown_set (grown_set (grown_set (grown_set HG.out (.inl rfl) _) (.inl rfl) _) (.inl rfl) _) (.inl rfl) _⟩
      case measure => simp [intOf]; omega
    · go_wp2
      go_ret
      have h := HO.out
      rw [List.drop_eq_nil_of_le (by omega), List.append_nil, show q = l.length by omega] at h
      exact ⟨reti (by omega), h, HG.out⟩
theorem markK_any (K : Nat) (l : List Pn) (v : Value) (B : Nat) (w : World) (ho : Own w B v l) (hl : l.length ≤ 1048576) (hK : K ≤ 100000000) :
    Calls Try.prog 22 #[v, .int .i64 K] w fun e w' => e = .returned (.int .i64 ((K : Int) + 4 * l.length)) ∧ Own w' B v (marksK K l.length) ∧ w.grownBy w' v.ownBlock := by
  rcases id ho.2 with ⟨rfl, h0⟩ | ⟨g, cap, cur, rfl, _⟩
  · obtain rfl : l = [] := List.eq_nil_of_length_eq_zero h0
    clear ho h0 hl
    go_enter Try.func22, Try.ntmps22
    go_wp2
    go_loopw [1, 5] (fun k i wr => i = .int .i64 0 ∧ k = .int .i64 K ∧ wr = w) (fun _ _ _ => 0)
    case atStart => exact ⟨rfl, rfl, rfl⟩
    case round =>
      obtain ⟨rfl, rfl, rfl⟩ := hrel
      go_wp2
      go_ret
      exact ⟨by simp, own_noneX B, World.grownBy.refl _ _⟩
  · exact markK_g K l g cap B w ho hl hK
def szL (n : Nat) (left : Int) : Int := if (n : Int) ≤ left then left - n else -1
theorem szL_cases (n : Nat) {left : Int} (h0 : 0 ≤ left) (h1 : left ≤ 1048576) : szL n left = -1 ∨ (0 ≤ szL n left ∧ szL n left ≤ 1048576 ∧ n ≤ 1048576) := by
  unfold szL; split
  · right; omega
  · left; rfl
theorem szP_is (l : List Pn) (v : Value) (left : Int) (h0 : 0 ≤ left) (h1 : left ≤ 1048576) (w : World) (h : IsP w v l) :
    Calls Try.prog 17 #[v, .int .i64 left] w fun e w' => e = .returned (.int .i64 (szL l.length left)) ∧ w = w' := by
  obtain ⟨A, c, rfl, h2, h3, _⟩ := h
  have hn : l.length ≤ maxLen := Nat.le_trans h2 h3
  unfold maxLen at hn
  obtain ⟨n, hn2⟩ : ∃ n, l.length = n := ⟨_, rfl⟩
  rw [hn2] at hn h2 ⊢
  clear hn2
  by_cases h : (n : Int) ≤ left
  · have HE := Lib.hid (show szL n left = left - n by rw [szL, if_pos h])
    go_enter Try.func17, Try.ntmps17
    go_wp2
    go_ret
    exact ⟨reti HE.out.symm, rfl⟩
  · have HE := Lib.hid (show szL n left = -1 by rw [szL, if_neg h])
    go_enter Try.func17, Try.ntmps17
    go_wp2
    go_ret
    exact ⟨reti HE.out.symm, rfl⟩
theorem toP_is (l : List Pn) (v : Value) (hl : l.length ≤ 1048576) (w : World) (h : IsP w v l) :
    Calls Try.prog 19 #[v] w fun e w' => ∃ v', e = .returned v' ∧ InP w' w.heap.size w'.heap.size v' l ∧ Below w.heap.size w w' := by
  obtain ⟨A, c, rfl, _, _, h3⟩ := h
  refine (toPersonS_any l A c hl w h3).mono ?_
  rintro e w' ⟨g, he, _, ho, hb⟩
  exact ⟨_, he, InP.of ho, hb⟩
theorem eqP_is (l : List Pn) (v u : Value) (hl : l.length ≤ 1048576) (w : World) (h1 : IsP w v l) (h2 : IsP w u l) :
    Calls Try.prog 21 #[v, u] w (Back (.bool true) w) := by
  obtain ⟨A, c, rfl, _, _, h3⟩ := h1
  obtain ⟨A2, c2, rfl, _, _, h4⟩ := h2
  exact eqS_any l A A2 c c2 hl w h3 h4
theorem markP_in (K : Nat) (hK : K ≤ 100000000) (l : List Pn) (v : Value) (B T : Nat) (hl : l.length ≤ 1048576) (w : World) (h : InP w B T v l) :
    Calls Try.prog 22 #[v, .int .i64 K] w fun e w' => e = .returned (.int .i64 ((K + 4 * l.length : Nat) : Int)) ∧ InP w' B T v (marksK K l.length) ∧ Within w w' B T := by
  refine (markK_any K l v B w h.2.1 hl hK).mono ?_
  rintro e w' ⟨he, ho, hg⟩
  have hob := World.ownsRow.lt h.2.1
  exact ⟨by rw [he]; simp, ⟨Nat.le_trans h.1 hg.size, ho, h.2.2⟩, (Within.refl w B T).grown hg fun k e => ⟨(hob k e).1, h.2.2 k e⟩⟩
end Go.Proofs.Ytmmabdioncgkoaa
