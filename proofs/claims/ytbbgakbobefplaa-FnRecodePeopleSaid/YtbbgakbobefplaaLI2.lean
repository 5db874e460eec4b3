import Derived.Test.YtbbgakbobefplaaLI1
namespace Go.Proofs.Ytbbgakbobefplaa
open Go.RowKit
theorem iHas_any (ll : List (List Int)) (A : Option Addr) (n c : Nat) (hn : n = ll.length) (hl : ll.length ≤ maxLen) (level : Int) (w : World) (hr : LL w w.heap.size A ll) :
    Calls Try.prog 38 #[.slice A n c, .int .i64 level] w (VR (.bool (groupOk ll level)) w) := by
  have hnl : n ≤ maxLen := by rw [hn]; exact hl
  unfold maxLen at hnl
  have HN := Lib.hid hn; clear hn
  have HG := Lib.hid (show groupOk ll level = (ladOk ll && in3 level 0 n) by rw [HN.out]; rfl)
  go_enter Try.func38, Try.ntmps38
  go_wp2_with fail
  refine (iValid_any ll A n c HN.out hl _ hr).mono ?_
  rintro e w' ⟨rfl, rfl⟩
  cases hok : ladOk ll
  · have HOK := Lib.hid hok; clear hok
    go_wp2
    go_ret
    exact ⟨retb (by rw [HG.out, HOK.out]; rfl), rfl⟩
  · have HOK := Lib.hid hok; clear hok
    by_cases h0 : 0 ≤ level
    · by_cases h1 : level ≤ n
      · go_wp2
        go_ret
        exact ⟨retb (by rw [HG.out, HOK.out]; simp [in3]; omega), rfl⟩
      · go_wp2
        go_ret
        exact ⟨retb (by rw [HG.out, HOK.out]; simp [in3]; omega), rfl⟩
    · go_wp2
      go_ret
      exact ⟨retb (by rw [HG.out, HOK.out]; simp [in3]; omega), rfl⟩
theorem lad_code {ll : List (List Int)} (h : ladOk ll = true) {level code : Int} (l0 : 0 ≤ level) (l1 : level ≤ ll.length) (c1 : code ≤ 3) : level ≠ 0 → code.toNat < (ll.getD (level - 1).toNat []).length := fun h0 => by
  rw [(stepOk_vals (lad_step h (level - 1).toNat (by omega))).1]; omega
theorem groupOk_parts {ll : List (List Int)} {level : Int} : groupOk ll level = true ↔ ladOk ll = true ∧ 0 ≤ level ∧ level ≤ ll.length := by
  simp only [groupOk, Bool.and_eq_true, in3_parts]
theorem iLadCode_any (ll : List (List Int)) (A : Option Addr) (n c : Nat) (hn : n = ll.length) (hl : ll.length ≤ maxLen) (level code : Int) (w : World) (hr : LL w w.heap.size A ll) :
    Calls Try.prog 20 #[.slice A n c, .int .i64 level, .int .i64 code] w (PairQ (lcode ll level code) (codeOk ll level code) w) := by
  have HN := Lib.hid hn; clear hn
  have HG := Lib.hid (show codeOk ll level code = (groupOk ll level && in3 code 0 3) from rfl)
  go_enter Try.func20, Try.ntmps20
  go_wp2_with fail
  refine (iHas_any ll A n c HN.out hl level _ hr).mono ?_
  rintro e w' ⟨rfl, rfl⟩
  cases hok : groupOk ll level
  · have HE := Lib.hid (show codeOk ll level code = false by rw [HG.out, hok]; rfl); clear hok
    go_wp2
    go_ret2
    exact pair_no HE.out 0
  have HOK := Lib.hid hok; clear hok
  go_wp2_with fail
  refine (inC4_any code _).mono ?_
  rintro e w' ⟨rfl, rfl⟩
  cases h2 : in3 code 0 3
  · have HE := Lib.hid (show codeOk ll level code = false by rw [HG.out, h2, Bool.and_false]); clear h2
    go_wp2
    go_ret2
    exact pair_no HE.out 0
  have HE := Lib.hid (show codeOk ll level code = true by rw [HG.out, h2, HOK.out]; rfl)
  have H2 := Lib.hid h2; clear h2
  go_wp2_with fail
  obtain ⟨g1, g2, g3⟩ := groupOk_parts.1 HOK.out
  obtain ⟨b0, b1⟩ := in3_parts.1 H2.out
  refine (iCode_any ll (lad_len g1) A n c HN.out level code g2 g3 b0 (lad_code g1 g2 g3 b1) _ hr).mono ?_
  rintro e w' ⟨rfl, rfl⟩
  clear g1 g2 g3 b0 b1
  go_wp2
  go_ret2
  exact pair_yes HE.out 0
end Go.Proofs.Ytbbgakbobefplaa
