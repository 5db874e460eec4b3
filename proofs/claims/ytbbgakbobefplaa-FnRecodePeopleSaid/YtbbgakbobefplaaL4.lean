import Derived.Test.YtbbgakbobefplaaL3
namespace Go.Proofs.Ytbbgakbobefplaa
open Go.RowKit
theorem lad_len {ll : List (List Int)} (h : ladOk ll = true) : ll.length ≤ 3 := by
  simp only [ladOk, Bool.and_eq_true, decide_eq_true_eq] at h; exact h.1
theorem lad_step {ll : List (List Int)} (h : ladOk ll = true) (k : Nat) (hk : k < ll.length) : stepOk (ll.getD k []) = true := by
  simp only [ladOk, Bool.and_eq_true, all_range] at h
  have h2 := h.2 k hk
  simp only [rungAt, Bool.and_eq_true] at h2
  exact h2.1
theorem drewN_size (w : World) (n : Nat) : (w.drewN n).heap.size = w.heap.size := rfl
theorem Row.drewN {w : World} {B : Nat} {A : Option Addr} {cs : List Value} (h : Row w B A cs) (n : Nat) : Row (w.drewN n) B A cs := h
theorem LL.drewN {w : World} {B : Nat} {A : Option Addr} {ll : List (List Int)} (h : LL w B A ll) (n : Nat) : LL (w.drewN n) B A ll := h
theorem sCode_any (ll : List (List Int)) (hok : ladOk ll = true) (A : Option Addr) (n c : Nat) (hn : n = ll.length) (level code : Int) (l0 : 0 ≤ level) (l1 : level ≤ ll.length) (c0 : 0 ≤ code) (c1 : code ≤ 3) (w : World) (hr : LL w w.heap.size A ll) :
    Calls Try.prog 52 #[.slice A n c, .int .i64 level, .int .i64 code] w fun e w' => e = .returned (.int .i64 (codeAt ll level code)) ∧ w = w' := by
  have h3 := lad_len hok
  by_cases h0 : level = 0
  · subst h0
    go_enter Try.func52, Try.ntmps52
    go_wp2
    go_ret
    exact ⟨rfl, rfl⟩
  · obtain ⟨q, rfl⟩ : ∃ q : Nat, level = ((q + 1 : Nat) : Int) := ⟨(level - 1).toNat, by omega⟩
    obtain ⟨v, rfl⟩ := Int.eq_ofNat_of_zero_le c0
    have hq : q < ll.length := by omega
    obtain ⟨b, o, Ai, ci, rfl, hb, d0, g1, g2, r0⟩ := hr.at_ q hq
    have hst := (stepOk_vals (lad_step hok q hq)).1
    obtain ⟨b2, o2, rfl, hb2, d1⟩ := r0.int_ v (by omega)
    have hv : codeAt ll ((q + 1 : Nat) : Int) v = (ll.getD q []).getD v 0 := by
      rw [codeAt, if_neg (by omega)]
      have e : ((((q + 1 : Nat) : Int) - 1).toNat) = q := by omega
      rw [e]; simp [ig]
    rw [hst] at d0
    have HV := Lib.hid hv; clear hv
    generalize (ll.getD q []).getD v 0 = x at *
    have hqi : (q : Int) < (n : Int) := by omega
    have hv4 : (v : Int) < 4 := by omega
    clear hst r0 hr hn g1 g2 h0
    go_enter Try.func52, Try.ntmps52
    go_wp2
    go_ret
    exact ⟨reti HV.out.symm, rfl⟩
theorem sLadder_at (ll : List (List Int)) (n : Nat) (hn : n = ll.length) (A : Option Addr) (c : Nat) (w : World) (hr : LL w w.heap.size A ll) (hl : ll.length ≤ maxLen) :
    Calls Try.prog 63 #[.slice A n c] w (QR (.bool (ladOk ll)) w) := by subst hn; exact sLadder_any ll A c w hr hl
def PairQ (x : Int) (t : Bool) (w : World) (e : Ending) (w' : World) : Prop := e = .returned (.tuple #[.int .i64 x, .bool t]) ∧ ∃ m, w' = w.drewN m
theorem codeOk_parts {ll : List (List Int)} {level code : Int} : codeOk ll level code = true ↔ ladOk ll = true ∧ in3 level 0 ll.length = true ∧ in3 code 0 3 = true := by
  simp only [codeOk, Bool.and_eq_true, and_assoc]
theorem in3_parts {x a b : Int} : in3 x a b = true ↔ a ≤ x ∧ x ≤ b := by simp [in3]
theorem codeOk_no {ll : List (List Int)} {level code : Int} (h : ¬ (ladOk ll = true ∧ in3 level 0 ll.length = true ∧ in3 code 0 3 = true)) : codeOk ll level code = false := by
  cases hc : codeOk ll level code
  · rfl
  · exact absurd (codeOk_parts.1 hc) h
theorem pair_no {ll : List (List Int)} {level code : Int} {w : World} (h : codeOk ll level code = false) (m : Nat) : PairQ (lcode ll level code) (codeOk ll level code) w (.returned (.tuple #[.int .i64 0, .bool false])) (w.drewN m) :=
  ⟨by simp [lcode, h], m, rfl⟩
theorem pair_yes {ll : List (List Int)} {level code : Int} {w : World} (h : codeOk ll level code = true) (m : Nat) : PairQ (lcode ll level code) (codeOk ll level code) w (.returned (.tuple #[.int .i64 (codeAt ll level code), .bool true])) (w.drewN m) :=
  ⟨by simp [lcode, h], m, rfl⟩
theorem groups_succ (ll : List (List Int)) (level : Int) (k : Nat) : groupsTo ll level (k + 1) = groupsTo ll level k + if codeAt ll level k = (k : Int) then 1 else 0 := by
  unfold groupsTo
  rw [List.range_succ, List.filter_append, List.length_append, List.filter_cons, List.filter_nil]
  by_cases h : codeAt ll level k = (k : Int)
  · simp [h]
  · simp [h]
theorem groups_bd (ll : List (List Int)) (level : Int) (k : Nat) : 0 ≤ groupsTo ll level k ∧ groupsTo ll level k ≤ k := by
  unfold groupsTo
  have := List.length_filter_le (fun i : Nat => codeAt ll level i == (i : Int)) (List.range k)
  simp at this
  omega
theorem groupOk_no {ll : List (List Int)} {level : Int} (h : ¬ (ladOk ll = true ∧ in3 level 0 ll.length = true)) : lgroups ll level = -1 := by
  unfold lgroups
  rw [if_neg (by simpa [groupOk] using h)]
end Go.Proofs.Ytbbgakbobefplaa
