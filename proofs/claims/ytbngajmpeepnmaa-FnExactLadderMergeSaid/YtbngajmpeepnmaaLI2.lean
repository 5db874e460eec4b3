import Derived.Test.YtbngajmpeepnmaaLI1
namespace Go.Proofs.Ytbngajmpeepnmaa
open Go.RowKit
theorem iHas_any (ll : List (List Int)) (A : Option Addr) (n c : Nat) (hn : n = ll.length) (hl : ll.length ≤ maxLen) (level : Int) (w : World) (hr : LL w w.heap.size A ll) :
    Calls Try.prog 28 #[.slice A n c, .int .i64 level] w (VR (.bool (groupOk ll level)) w) := by
  have hnl : n ≤ maxLen := by rw [hn]; exact hl
  unfold maxLen at hnl
  have HN := Lib.hid hn; clear hn
  have HG := Lib.hid (show groupOk ll level = (ladOk ll && in3 level 0 n) by rw [HN.out]; rfl)
  go_enter Try.func28, Try.ntmps28
  go_wp2_with fail
  refine (iValid_any ll A n c HN.out hl _ hr).mono ?_
  rintro e w' ⟨rfl, rfl⟩
  cases hok : ladOk ll
  · have HOK := Lib.hid hok; clear hok
    go_wp2
    go_ret
    exact ⟨retb (by rw [HG.out, HOK.out]; rfl), rfl⟩
  · have HOK := Lib.hid hok; clear hok
    by_cases h0 : 0 ≤ level
    · by_cases h1 : level ≤ n
      · go_wp2
        go_ret
        exact ⟨retb (by rw [HG.out, HOK.out]; simp [in3]; omega), rfl⟩
      · go_wp2
        go_ret
        exact ⟨retb (by rw [HG.out, HOK.out]; simp [in3]; omega), rfl⟩
    · go_wp2
      go_ret
      exact ⟨retb (by rw [HG.out, HOK.out]; simp [in3]; omega), rfl⟩
theorem lad_code {ll : List (List Int)} (h : ladOk ll = true) {level code : Int} (l0 : 0 ≤ level) (l1 : level ≤ ll.length) (c1 : code ≤ 3) : level ≠ 0 → code.toNat < (ll.getD (level - 1).toNat []).length := fun h0 => by
  rw [(stepOk_vals (lad_step h (level - 1).toNat (by omega))).1]; omega
theorem groupOk_parts {ll : List (List Int)} {level : Int} : groupOk ll level = true ↔ ladOk ll = true ∧ 0 ≤ level ∧ level ≤ ll.length := by
  simp only [groupOk, Bool.and_eq_true, in3_parts]
theorem iLadCode_any (ll : List (List Int)) (A : Option Addr) (n c : Nat) (hn : n = ll.length) (hl : ll.length ≤ maxLen) (level code : Int) (w : World) (hr : LL w w.heap.size A ll) :
    Calls Try.prog 10 #[.slice A n c, .int .i64 level, .int .i64 code] w (PairQ (lcode ll level code) (codeOk ll level code) w) := by
  have HN := Lib.hid hn; clear hn
  have HG := Lib.hid (show codeOk ll level code = (groupOk ll level && in3 code 0 3) from rfl)
  go_enter Try.func10, Try.ntmps10
  go_wp2_with fail
  refine (iHas_any ll A n c HN.out hl level _ hr).mono ?_
  rintro e w' ⟨rfl, rfl⟩
  cases hok : groupOk ll level
  · have HE := Lib.hid (show codeOk ll level code = false by rw [HG.out, hok]; rfl); clear hok
    go_wp2
    go_ret2
    exact pair_no HE.out 0
  have HOK := Lib.hid hok; clear hok
  go_wp2_with fail
  refine (inC4_any code _).mono ?_
  rintro e w' ⟨rfl, rfl⟩
  cases h2 : in3 code 0 3
  · have HE := Lib.hid (show codeOk ll level code = false by rw [HG.out, h2, Bool.and_false]); clear h2
    go_wp2
    go_ret2
    exact pair_no HE.out 0
  have HE := Lib.hid (show codeOk ll level code = true by rw [HG.out, h2, HOK.out]; rfl)
  have H2 := Lib.hid h2; clear h2
  go_wp2_with fail
  obtain ⟨g1, g2, g3⟩ := groupOk_parts.1 HOK.out
  obtain ⟨b0, b1⟩ := in3_parts.1 H2.out
  refine (iCode_any ll (lad_len g1) A n c HN.out level code g2 g3 b0 (lad_code g1 g2 g3 b1) _ hr).mono ?_
  rintro e w' ⟨rfl, rfl⟩
  clear g1 g2 g3 b0 b1
  go_wp2
  go_ret2
  exact pair_yes HE.out 0
theorem iGrps_any (ll : List (List Int)) (hok : ladOk ll = true) (A : Option Addr) (n c : Nat) (hn : n = ll.length) (level : Int) (l0 : 0 ≤ level) (l1 : level ≤ ll.length) (w : World) (hr : LL w w.heap.size A ll) :
    Calls Try.prog 36 #[.slice A n c, .int .i64 level] w (VR (.int .i64 (groupsTo ll level 4)) w) := by
  have HN := Lib.hid hn; clear hn
  have HOK := Lib.hid hok; clear hok
  go_enter Try.func36, Try.ntmps36
  go_wp2
  go_loopw [5, 7] (fun g i wr => ∃ k : Nat, k ≤ 4 ∧ i = .int .i64 k ∧ g = .int .i64 (groupsTo ll level k) ∧ wr = w) (fun _ i _ => 4 - (intOf i).toNat)
  case atStart => exact ⟨0, by omega, rfl, rfl, rfl⟩
  case round =>
    obtain ⟨k, hk, rfl, rfl, rfl⟩ := hrel
    obtain ⟨g0, g1⟩ := groups_bd ll level k
    have HG := Lib.hid (groups_succ ll level k)
    obtain ⟨g, hg⟩ : ∃ g, groupsTo ll level k = g := ⟨_, rfl⟩
    rw [hg] at g0 g1 HG ⊢
    have HGE := Lib.hid hg; clear hg
    by_cases hlt : k < 4
    · have hki : (k : Int) < 4 := by omega
      go_wp2_with fail
      refine (iCode_any ll (lad_len HOK.out) A n c HN.out level k l0 l1 (by omega) (lad_code HOK.out l0 l1 (by omega)) _ hr).mono ?_
      rintro e w' ⟨rfl, rfl⟩
      obtain ⟨z, hz⟩ : ∃ z, codeAt ll level k = z := ⟨_, rfl⟩
      rw [hz] at HG ⊢
      have HZ := Lib.hid hz; clear hz
      by_cases hzk : z = k
      · subst hzk
        go_wp2
        go_roundw
        case rel => exact ⟨k + 1, by omega, by go_num, by rw [HG.out]; simp, by first | rfl | trivial⟩
        case measure => simp [intOf]; omega
      · have hz1 : (z == (k : Int)) = false := by rw [beq_eq_false_iff_ne]; exact hzk
        have HZK := Lib.hid hzk; clear hzk
        go_wp2
        go_roundw
        case rel => exact ⟨k + 1, by omega, by go_num, by rw [HG.out, if_neg HZK.out]; simp, by first | rfl | trivial⟩
        case measure => simp [intOf]; omega
    · go_wp2
      go_ret
      obtain rfl : k = 4 := by omega
      exact ⟨reti HGE.out.symm, rfl⟩
theorem iGroups_any (ll : List (List Int)) (A : Option Addr) (n c : Nat) (hn : n = ll.length) (hl : ll.length ≤ maxLen) (level : Int) (w : World) (hr : LL w w.heap.size A ll) :
    Calls Try.prog 16 #[.slice A n c, .int .i64 level] w (QR (.int .i64 (lgroups ll level)) w) := by
  have HN := Lib.hid hn; clear hn
  go_enter Try.func16, Try.ntmps16
  go_wp2_with fail
  refine (iHas_any ll A n c HN.out hl level _ hr).mono ?_
  rintro e w' ⟨rfl, rfl⟩
  cases hok : groupOk ll level
  · have HE := Lib.hid (show lgroups ll level = -1 by rw [lgroups, hok]; rfl); clear hok
    go_wp2
    go_ret
    exact ⟨reti HE.out.symm, 0, rfl⟩
  have HE := Lib.hid (show lgroups ll level = groupsTo ll level 4 by rw [lgroups, hok]; rfl)
  have HOK := Lib.hid hok; clear hok
  go_wp2_with fail
  obtain ⟨g1, g2, g3⟩ := groupOk_parts.1 HOK.out
  refine (iGrps_any ll g1 A n c HN.out level g2 g3 _ hr).mono ?_
  rintro e w' ⟨rfl, rfl⟩
  clear g1 g2 g3
  go_wp2
  go_ret
  exact ⟨reti HE.out.symm, 0, rfl⟩
end Go.Proofs.Ytbngajmpeepnmaa
