import Derived.Test.YtcfcimfhpbjjnaaE3
import Derived.Test.YtcfcimfhpbjjnaaS3
namespace Go.Proofs.Ytcfcimfhpbjjnaa
open Go.RowKit
/-- The numbers that marking writes. -/
def mp (q : Nat) : Pn := ⟨1 + 4 * q, 1 + 4 * q + 1, 1 + 4 * q + 2, 1 + 4 * q + 3⟩
def marks (n : Nat) : List Pn := (List.range n).map mp
theorem marks_len (n : Nat) : (marks n).length = n := by simp [marks]
theorem marks_get (n k : Nat) (hk : k < (marks n).length) : (marks n)[k] = mp k := by simp [marks]
theorem mark_set (l : List Pn) (q : Nat) (hq : q < l.length) : (marks q ++ l.drop q).set q (mp q) = marks (q + 1) ++ l.drop (q + 1) := by
  have hm := marks_len q
  rw [List.set_append_right _ _ (by omega), hm, Nat.sub_self, List.drop_eq_getElem_cons hq, List.set_cons_zero]
  simp [marks, List.range_succ]
theorem own_none {w : World} (B : Nat) : Own w B (.slice none 0 0) [] := ⟨rfl, .inl ⟨rfl, rfl⟩⟩
theorem mark_g (l : List Pn) (g c B : Nat) (w : World) (ho : Own w B (.slice (some ⟨g, 0, none⟩) l.length c) l) (hl : l.length ≤ 1048576) :
    Calls Try.prog 32 #[.slice (some ⟨g, 0, none⟩) l.length c, .int .i64 1] w fun e w' =>
      e = .returned (.int .i64 (1 + 4 * l.length)) ∧ Own w' B (.slice (some ⟨g, 0, none⟩) l.length c) (marks l.length) ∧ w.grownBy w' (some g) := by
  have HO := Lib.hid ho; clear ho
  go_enter Try.func32, Try.ntmps32
  go_wp2
  go_loopw [1, 5] (fun k i wr => ∃ q : Nat, q ≤ l.length ∧ i = .int .i64 q ∧ k = .int .i64 (1 + 4 * q) ∧ Own wr B (.slice (some ⟨g, 0, none⟩) l.length c) (marks q ++ l.drop q) ∧ w.grownBy wr (some g)) (fun _ i _ => l.length - (intOf i).toNat)
  case atStart => exact ⟨0, Nat.zero_le _, rfl, rfl, by simpa [marks] using HO.out, World.grownBy.refl w _⟩
  case round =>
    obtain ⟨q, hq, rfl, rfl, ho, hg⟩ := hrel
    clear HO
    have HO := Lib.hid ho; clear ho
    have HG := Lib.hid hg; clear hg
    by_cases hlt : q < l.length
    · have hk : q < (marks q ++ l.drop q).length := by simp [marks_len]; omega
      obtain ⟨_, _, _, _, hfr⟩ := HO.out.cellAt q hk
      have f0 := hfr (q * 4); have f1 := hfr (q * 4 + 1); have f2 := hfr (q * 4 + 2); have f3 := hfr (q * 4 + 3)
      have hs := HO.out.setAt q hk (mp q)
      rw [mark_set l q hlt] at hs
      have HS := Lib.hid hs
      clear hs hfr
      go_wp2
      go_roundw
      case rel => exact ⟨q + 1, by omega, by go_num, by go_num, HS.out, grown_set (grown_set (grown_set (grown_set HG.out (.inl rfl) _) (.inl rfl) _) (.inl rfl) _) (.inl rfl) _⟩
      case measure => simp [intOf]; omega
    · go_wp2
      go_ret
      have h := HO.out
      rw [List.drop_eq_nil_of_le (by omega), List.append_nil, show q = l.length by omega] at h
      exact ⟨reti (by omega), h, HG.out⟩
theorem mark_any (l : List Pn) (v : Value) (B : Nat) (w : World) (ho : Own w B v l) (hl : l.length ≤ 1048576) :
    Calls Try.prog 32 #[v, .int .i64 1] w fun e w' => e = .returned (.int .i64 (1 + 4 * l.length)) ∧ Own w' B v (marks l.length) ∧ w.grownBy w' v.ownBlock := by
  rcases id ho.2 with ⟨rfl, h0⟩ | ⟨g, cap, cur, rfl, _⟩
  · obtain rfl : l = [] := List.eq_nil_of_length_eq_zero h0
    clear ho h0 hl
    go_enter Try.func32, Try.ntmps32
    go_wp2
    go_loopw [1, 5] (fun k i wr => i = .int .i64 0 ∧ k = .int .i64 1 ∧ wr = w) (fun _ _ _ => 0)
    case atStart => exact ⟨rfl, rfl, rfl⟩
    case round =>
      obtain ⟨rfl, rfl, rfl⟩ := hrel
      go_wp2
      go_ret
      exact ⟨rfl, own_none B, World.grownBy.refl _ _⟩
  · exact mark_g l g cap B w ho hl
theorem held_any (n : Nat) (A : Option Addr) (c : Nat) (w : World) (hr : Row w w.heap.size A (pcells (marks n))) (hl : n ≤ 1048576) :
    Calls Try.prog 33 #[.slice A n c, .int .i64 1] w fun e w' => e = .returned (.int .i64 (1 + 4 * n)) ∧ w = w' := by
  go_enter Try.func33, Try.ntmps33
  go_wp2
  go_loopw [1, 5] (fun k i wr => ∃ q : Nat, q ≤ n ∧ i = .int .i64 q ∧ k = .int .i64 (1 + 4 * q) ∧ w = wr) (fun _ i _ => n - (intOf i).toNat)
  case atStart => exact ⟨0, Nat.zero_le _, rfl, rfl, rfl⟩
  case round =>
    obtain ⟨q, hq, rfl, rfl, rfl⟩ := hrel
    by_cases hlt : q < n
    · obtain ⟨b, o, rfl, _, c0, c1, c2, c3⟩ := hr.at_ q (by rw [marks_len]; exact hlt)
      rw [marks_get] at c0 c1 c2 c3
      simp only [mp] at c0 c1 c2 c3
      go_wp2
      go_roundw
      case rel => exact ⟨q + 1, by omega, by go_num, by go_num, by first | rfl | trivial⟩
      case measure => simp [intOf]; omega
    · go_wp2
      go_ret
      exact ⟨reti (by omega), rfl⟩
end Go.Proofs.Ytcfcimfhpbjjnaa
