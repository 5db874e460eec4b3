import Derived.Test.YtbngajmpeepnmaaL3
namespace Go.Proofs.Ytbngajmpeepnmaa
open Go.RowKit
theorem lad_len {ll : List (List Int)} (h : ladOk ll = true) : ll.length ≤ 3 := by
  simp only [ladOk, Bool.and_eq_true, decide_eq_true_eq] at h; exact h.1
theorem lad_step {ll : List (List Int)} (h : ladOk ll = true) (k : Nat) (hk : k < ll.length) : stepOk (ll.getD k []) = true := by
  simp only [ladOk, Bool.and_eq_true, all_range] at h
  have h2 := h.2 k hk
  simp only [rungAt, Bool.and_eq_true] at h2
  exact h2.1
theorem drewN_size (w : World) (n : Nat) : (w.drewN n).heap.size = w.heap.size := rfl
theorem Row.drewN {w : World} {B : Nat} {A : Option Addr} {cs : List Value} (h : Row w B A cs) (n : Nat) : Row (w.drewN n) B A cs := h
theorem LL.drewN {w : World} {B : Nat} {A : Option Addr} {ll : List (List Int)} (h : LL w B A ll) (n : Nat) : LL (w.drewN n) B A ll := h
theorem sCode_any (ll : List (List Int)) (hok : ladOk ll = true) (A : Option Addr) (n c : Nat) (hn : n = ll.length) (level code : Int) (l0 : 0 ≤ level) (l1 : level ≤ ll.length) (c0 : 0 ≤ code) (c1 : code ≤ 3) (w : World) (hr : LL w w.heap.size A ll) :
    Calls Try.prog 32 #[.slice A n c, .int .i64 level, .int .i64 code] w fun e w' => e = .returned (.int .i64 (codeAt ll level code)) ∧ w = w' := by
  have h3 := lad_len hok
  by_cases h0 : level = 0
  · subst h0
    go_enter Try.func32, Try.ntmps32
    go_wp2
    go_ret
    exact ⟨rfl, rfl⟩
  · obtain ⟨q, rfl⟩ : ∃ q : Nat, level = ((q + 1 : Nat) : Int) := ⟨(level - 1).toNat, by omega⟩
    obtain ⟨v, rfl⟩ := Int.eq_ofNat_of_zero_le c0
    have hq : q < ll.length := by omega
    obtain ⟨b, o, Ai, ci, rfl, hb, d0, g1, g2, r0⟩ := hr.at_ q hq
    have hst := (stepOk_vals (lad_step hok q hq)).1
    obtain ⟨b2, o2, rfl, hb2, d1⟩ := r0.int_ v (by omega)
    have hv : codeAt ll ((q + 1 : Nat) : Int) v = (ll.getD q []).getD v 0 := by
      rw [codeAt, if_neg (by omega)]
      have e : ((((q + 1 : Nat) : Int) - 1).toNat) = q := by omega
      rw [e]; simp [ig]
    rw [hst] at d0
    have HV := Lib.hid hv; clear hv
    generalize (ll.getD q []).getD v 0 = x at *
    have hqi : (q : Int) < (n : Int) := by omega
    have hv4 : (v : Int) < 4 := by omega
    clear hst r0 hr hn g1 g2 h0
    go_enter Try.func32, Try.ntmps32
    go_wp2
    go_ret
    exact ⟨reti HV.out.symm, rfl⟩
theorem sLadder_at (ll : List (List Int)) (n : Nat) (hn : n = ll.length) (A : Option Addr) (c : Nat) (w : World) (hr : LL w w.heap.size A ll) (hl : ll.length ≤ maxLen) :
    Calls Try.prog 18 #[.slice A n c] w (QR (.bool (ladOk ll)) w) := by subst hn; exact sLadder_any ll A c w hr hl
def PairQ (x : Int) (t : Bool) (w : World) (e : Ending) (w' : World) : Prop := e = .returned (.tuple #[.int .i64 x, .bool t]) ∧ ∃ m, w' = w.drewN m
theorem codeOk_parts {ll : List (List Int)} {level code : Int} : codeOk ll level code = true ↔ ladOk ll = true ∧ in3 level 0 ll.length = true ∧ in3 code 0 3 = true := by
  simp only [codeOk, Bool.and_eq_true, and_assoc]
theorem in3_parts {x a b : Int} : in3 x a b = true ↔ a ≤ x ∧ x ≤ b := by simp [in3]
theorem codeOk_no {ll : List (List Int)} {level code : Int} (h : ¬ (ladOk ll = true ∧ in3 level 0 ll.length = true ∧ in3 code 0 3 = true)) : codeOk ll level code = false := by
  cases hc : codeOk ll level code
  · rfl
  · exact absurd (codeOk_parts.1 hc) h
theorem pair_no {ll : List (List Int)} {level code : Int} {w : World} (h : codeOk ll level code = false) (m : Nat) : PairQ (lcode ll level code) (codeOk ll level code) w (.returned (.tuple #[.int .i64 0, .bool false])) (w.drewN m) :=
  ⟨by simp [lcode, h], m, rfl⟩
theorem pair_yes {ll : List (List Int)} {level code : Int} {w : World} (h : codeOk ll level code = true) (m : Nat) : PairQ (lcode ll level code) (codeOk ll level code) w (.returned (.tuple #[.int .i64 (codeAt ll level code), .bool true])) (w.drewN m) :=
  ⟨by simp [lcode, h], m, rfl⟩
theorem sLadCode_any (ll : List (List Int)) (A : Option Addr) (n c : Nat) (hn : n = ll.length) (hl : ll.length ≤ maxLen) (level code : Int) (w : World) (hr : LL w w.heap.size A ll) :
    Calls Try.prog 11 #[.slice A n c, .int .i64 level, .int .i64 code] w (PairQ (lcode ll level code) (codeOk ll level code) w) := by
  have hl2 : n ≤ 2 ^ 63 - 1 := by rw [hn]; exact hl
  have HN := Lib.hid hn; clear hn
  go_enter Try.func11, Try.ntmps11
  go_wp2_with fail
  refine (sLadder_at ll n HN.out A c _ hr hl).mono ?_
  rintro e w' ⟨rfl, m, rfl⟩
  cases hok : ladOk ll
  · have HE := Lib.hid (codeOk_no (level := level) (code := code) (fun h => by rw [hok] at h; cases h.1)); clear hok
    go_wp2
    go_ret2
    exact pair_no HE.out m
  have HOK := Lib.hid hok; clear hok
  go_wp2_with fail
  refine (l6In_any level 0 n _).mono ?_
  rintro e w' ⟨rfl, rfl⟩
  cases h1 : in3 level 0 n
  · have HE := Lib.hid (codeOk_no (ll := ll) (level := level) (code := code) (fun h => by rw [← HN.out, h1] at h; cases h.2.1)); clear h1
    go_wp2
    go_ret2
    exact pair_no HE.out m
  have H1 := Lib.hid h1; clear h1
  go_wp2_with fail
  refine (l6In_any code 0 3 _).mono ?_
  rintro e w' ⟨rfl, rfl⟩
  cases h2 : in3 code 0 3
  · have HE := Lib.hid (codeOk_no (ll := ll) (level := level) (code := code) (fun h => by rw [h2] at h; cases h.2.2)); clear h2
    go_wp2
    go_ret2
    exact pair_no HE.out m
  have H2 := Lib.hid h2; clear h2
  obtain ⟨a0, a1⟩ := in3_parts.1 H1.out
  obtain ⟨b0, b1⟩ := in3_parts.1 H2.out
  go_wp2_with fail
  refine (sCode_any ll HOK.out A n c HN.out level code a0 (by rw [← HN.out]; exact a1) b0 b1 _ (hr.drewN m)).mono ?_
  rintro e w' ⟨rfl, rfl⟩
  go_wp2
  go_ret2
  exact pair_yes (codeOk_parts.2 ⟨HOK.out, by rw [← HN.out]; exact H1.out, H2.out⟩) m
theorem groups_succ (ll : List (List Int)) (level : Int) (k : Nat) : groupsTo ll level (k + 1) = groupsTo ll level k + if codeAt ll level k = (k : Int) then 1 else 0 := by
  unfold groupsTo
  rw [List.range_succ, List.filter_append, List.length_append, List.filter_cons, List.filter_nil]
  by_cases h : codeAt ll level k = (k : Int)
  · simp [h]
  · simp [h]
theorem groups_bd (ll : List (List Int)) (level : Int) (k : Nat) : 0 ≤ groupsTo ll level k ∧ groupsTo ll level k ≤ k := by
  unfold groupsTo
  have := List.length_filter_le (fun i : Nat => codeAt ll level i == (i : Int)) (List.range k)
  simp at this
  omega
theorem groupOk_no {ll : List (List Int)} {level : Int} (h : ¬ (ladOk ll = true ∧ in3 level 0 ll.length = true)) : lgroups ll level = -1 := by
  unfold lgroups
  rw [if_neg (by simpa [groupOk] using h)]
theorem sGroups_any (ll : List (List Int)) (A : Option Addr) (n c : Nat) (hn : n = ll.length) (hl : ll.length ≤ maxLen) (level : Int) (w : World) (hr : LL w w.heap.size A ll) :
    Calls Try.prog 22 #[.slice A n c, .int .i64 level] w (QR (.int .i64 (lgroups ll level)) w) := by
  have hl2 : n ≤ 2 ^ 63 - 1 := by rw [hn]; exact hl
  have HN := Lib.hid hn; clear hn
  go_enter Try.func22, Try.ntmps22
  go_wp2_with fail
  refine (sLadder_at ll n HN.out A c _ hr hl).mono ?_
  rintro e w' ⟨rfl, m, rfl⟩
  cases hok : ladOk ll
  · have HE := Lib.hid (groupOk_no (level := level) (fun h => by rw [hok] at h; cases h.1)); clear hok
    go_wp2
    go_ret
    exact ⟨reti HE.out.symm, m, rfl⟩
  have HOK := Lib.hid hok; clear hok
  go_wp2_with fail
  refine (l6In_any level 0 n _).mono ?_
  rintro e w' ⟨rfl, rfl⟩
  cases h1 : in3 level 0 n
  · have HE := Lib.hid (groupOk_no (ll := ll) (level := level) (fun h => by rw [← HN.out, h1] at h; cases h.2)); clear h1
    go_wp2
    go_ret
    exact ⟨reti HE.out.symm, m, rfl⟩
  have H1 := Lib.hid h1; clear h1
  obtain ⟨a0, a1⟩ := in3_parts.1 H1.out
  have HE := Lib.hid (show lgroups ll level = groupsTo ll level 4 by unfold lgroups; rw [if_pos]; simp only [groupOk, Bool.and_eq_true]; exact ⟨HOK.out, by rw [← HN.out]; exact H1.out⟩)
  go_wp2
  go_loopw [5, 6] (fun g i wr => ∃ k : Nat, k ≤ 4 ∧ i = .int .i64 k ∧ g = .int .i64 (groupsTo ll level k) ∧ wr = w.drewN m) (fun _ i _ => 4 - (intOf i).toNat)
  case atStart => exact ⟨0, by omega, rfl, rfl, rfl⟩
  case round =>
    obtain ⟨k, hk, rfl, rfl, rfl⟩ := hrel
    obtain ⟨g0, g1⟩ := groups_bd ll level k
    have HG := Lib.hid (groups_succ ll level k)
    obtain ⟨g, hg⟩ : ∃ g, groupsTo ll level k = g := ⟨_, rfl⟩
    rw [hg] at g0 g1 ⊢
    have HGE := Lib.hid hg; clear hg
    by_cases hlt : k < 4
    · have hki : (k : Int) < 4 := by omega
      go_wp2_with fail
      refine (sCode_any ll HOK.out A n c HN.out level k a0 (by rw [← HN.out]; exact a1) (by omega) (by omega) _ (hr.drewN m)).mono ?_
      rintro e w' ⟨rfl, rfl⟩
      obtain ⟨z, hz⟩ : ∃ z, codeAt ll level k = z := ⟨_, rfl⟩
      rw [hz]
      have HZ := Lib.hid hz; clear hz
      by_cases hzk : z = k
      · subst hzk
        go_wp2
        go_roundw
        case rel => exact ⟨k + 1, by omega, by go_num, by rw [HG.out, HGE.out, HZ.out]; simp, by first | rfl | trivial⟩
        case measure => simp [intOf]; omega
      · have hz1 : (z == (k : Int)) = false := by rw [beq_eq_false_iff_ne]; exact hzk
        go_wp2
        go_roundw
        case rel => exact ⟨k + 1, by omega, by go_num, by rw [HG.out, HGE.out, HZ.out, if_neg hzk]; simp, by first | rfl | trivial⟩
        case measure => simp [intOf]; omega
    · go_wp2
      go_ret
      obtain rfl : k = 4 := by omega
      exact ⟨reti (by rw [HE.out, HGE.out]), m, rfl⟩
end Go.Proofs.Ytbngajmpeepnmaa
