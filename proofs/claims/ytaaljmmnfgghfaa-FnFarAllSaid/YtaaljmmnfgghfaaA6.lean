/- Ladders in memory, by their value. Ladders' functions, by values. -/
import Derived.Test.YtaaljmmnfgghfaaA3
import Derived.Test.YtaaljmmnfgghfaaA1
namespace Go.Proofs.Ytaaljmmnfgghfaa
open Go.RowKit
abbrev TCL : TypeId := 74
theorem inC4_any (x : Int) (w : World) : Calls Try.prog 60 #[.int .i64 x, .int .i64 4] w fun e w' => e = .returned (.bool (in3 x 0 3)) ∧ w = w' := by
  go_enter Try.func60, Try.ntmps60
  go_wp2
  all_goals (go_ret; exact ⟨retb (by rw [Bool.eq_iff_iff]; simp [in3]; try omega), rfl⟩)
/-- A value, and nothing more. -/
def VR (v : Value) (w : World) (e : Ending) (w' : World) : Prop := e = .returned v ∧ w = w'
theorem VR.draws {v : Value} {w : World} {e : Ending} {w' : World} (h : VR v w e w') : QR v w e w' := by
  obtain ⟨he, rfl⟩ := h; exact ⟨he, 0, rfl⟩
theorem iStep_any (x : List Int) (A : Option Addr) (n c : Nat) (hn : n = x.length) (w : World) (hr : Row w w.heap.size A (icells x)) :
    Calls Try.prog 66 #[.slice A n c] w (VR (.bool (stepOk x)) w) := by
  have HN := Lib.hid hn; clear hn
  by_cases h4 : n = 4
  · subst h4
    go_enter Try.func66, Try.ntmps66
    go_wp2
    go_loopw [10] (fun i wr => ∃ k : Nat, k ≤ 4 ∧ i = .int .i64 k ∧ (∀ j, j < k → stepAt x j = true) ∧ wr = w) (fun i _ => 4 - (intOf i).toNat)
    case atStart => exact ⟨0, Nat.zero_le _, rfl, by simp, rfl⟩
    case round =>
      obtain ⟨k, hk, rfl, hall, rfl⟩ := hrel
      have HALL := Lib.hid hall; clear hall
      by_cases hlt : k < 4
      · have hki : (k : Int) < 4 := by omega
        obtain ⟨b, o, rfl, hb, c0⟩ := hr.int_ k (by rw [← HN.out]; exact hlt)
        obtain ⟨a, ha⟩ : ∃ a, x.getD k 0 = a := ⟨_, rfl⟩
        rw [ha] at c0
        have HA := Lib.hid ha; clear ha
        cases hin : in3 a 0 k
        · have h2 : a < 0 ∨ (¬ a < 0 ∧ (k : Int) < a) := by
            simp [in3] at hin; omega
          have HIN := Lib.hid hin; clear hin
          have hno : stepOk x = false := by rw [stepOk, all_range_no k (by rw [← HN.out]; exact hlt) (by rw [stepAt, HA.out, HIN.out]; rfl), Bool.and_false]
          have HNO := Lib.hid hno; clear hno
          rcases h2 with h2 | ⟨h2, h3⟩
          · go_wp2
            go_ret
            exact ⟨retb HNO.out.symm, rfl⟩
          · go_wp2
            go_ret
            exact ⟨retb HNO.out.symm, rfl⟩
        · have hin2 : 0 ≤ a ∧ a ≤ k := by simpa [in3] using hin
          obtain ⟨v, hv⟩ := Int.eq_ofNat_of_zero_le hin2.1
          have hvk : v < x.length := by rw [← HN.out]; omega
          obtain ⟨b2, o2, hA2, _, c1⟩ := hr.int_ v hvk
          injection hA2 with hA2
          injection hA2 with h1 h2 _
          subst h1 h2
          have HIN := Lib.hid hin; clear hin
          have hst : stepAt x k = decide (x.getD v 0 = (v : Int)) := by rw [stepAt, HA.out, HIN.out, hv]; simp [ig]
          have HST := Lib.hid hst; clear hst
          subst hv
          have hvi : (v : Int) < 4 := by omega
          have h30 : ¬ (v : Int) < 0 := by omega
          have h31 : ¬ (k : Int) < (v : Int) := by omega
          clear hr hin2
          generalize x.getD v 0 = y at *
          by_cases hy : y = v
          · subst hy
            go_wp2
            go_roundw
            case rel =>
              refine ⟨k + 1, by omega, by go_num, fun j hj => ?_, by first | rfl | trivial⟩
              by_cases hjk : j < k
              · exact HALL.out j hjk
              · obtain rfl : j = k := by omega
                rw [HST.out]; simp
            case measure => simp [intOf]; omega
          · have hyb : (y == (v : Int)) = false := by rw [beq_eq_false_iff_ne]; exact hy
            go_wp2
            go_ret
            refine ⟨retb ?_, rfl⟩
            rw [stepOk, all_range_no k (by rw [← HN.out]; exact hlt) (by rw [HST.out]; simp [hy]), Bool.and_false]
      · have hki : ¬ (k : Int) < 4 := by omega
        go_wp2
        go_ret
        refine ⟨retb ?_, rfl⟩
        rw [stepOk, all_range.2 fun j hj => HALL.out j (by rw [← HN.out] at hj; omega), Bool.and_true]
        rw [← HN.out]; rfl
  · have hne : ((n : Int) == 4) = false := by rw [beq_eq_false_iff_ne]; omega
    go_enter Try.func66, Try.ntmps66
    go_wp2
    go_ret
    refine ⟨retb ?_, rfl⟩
    rw [stepOk, ← HN.out]; simp [h4]
/-- A code at a level whose step is long enough. -/
theorem iCode_any (ll : List (List Int)) (h3 : ll.length ≤ 3) (A : Option Addr) (n c : Nat) (hn : n = ll.length) (level code : Int) (l0 : 0 ≤ level) (l1 : level ≤ ll.length) (c0 : 0 ≤ code)
    (hs : level ≠ 0 → code.toNat < (ll.getD (level - 1).toNat []).length) (w : World) (hr : LL w w.heap.size A ll) :
    Calls Try.prog 51 #[.slice A n c, .int .i64 level, .int .i64 code] w (VR (.int .i64 (codeAt ll level code)) w) := by
  by_cases h0 : level = 0
  · subst h0
    go_enter Try.func51, Try.ntmps51
    go_wp2
    go_ret
    exact ⟨rfl, rfl⟩
  · have hs2 := hs h0
    obtain ⟨q, rfl⟩ : ∃ q : Nat, level = ((q + 1 : Nat) : Int) := ⟨(level - 1).toNat, by omega⟩
    obtain ⟨v, rfl⟩ := Int.eq_ofNat_of_zero_le c0
    have e : ((((q + 1 : Nat) : Int) - 1).toNat) = q := by omega
    rw [e] at hs2
    have e2 : ((v : Int).toNat) = v := by omega
    rw [e2] at hs2
    have hq : q < ll.length := by omega
    obtain ⟨b, o, Ai, ci, rfl, hb, d0, g1, g2, r0⟩ := hr.at_ q hq
    obtain ⟨b2, o2, rfl, hb2, d1⟩ := r0.int_ v hs2
    have hv : codeAt ll ((q + 1 : Nat) : Int) v = (ll.getD q []).getD v 0 := by
      rw [codeAt, if_neg (by omega), e]; simp [ig]
    have HV := Lib.hid hv; clear hv
    obtain ⟨m, hm⟩ : ∃ m, (ll.getD q []).length = m := ⟨_, rfl⟩
    rw [hm] at d0 hs2
    have hvm : (v : Int) < (m : Int) := by omega
    clear hm
    generalize (ll.getD q []).getD v 0 = x at *
    have hqi : (q : Int) < (n : Int) := by omega
    have hq3 : q < 3 := by omega
    have hq0 : (((q + 1 : Nat) : Int) == 0) = false := by rw [beq_eq_false_iff_ne]; omega
    clear r0 hr hn g1 g2 h0 hs e e2
    go_enter Try.func51, Try.ntmps51
    go_wp2
    go_ret
    exact ⟨reti HV.out.symm, rfl⟩
def keepsAt (ll : List (List Int)) (k : Nat) (j : Nat) : Bool := decide (codeAt ll ((k + 1 : Nat) : Int) j = codeAt ll ((k + 1 : Nat) : Int) (codeAt ll k j))
def keeps (ll : List (List Int)) (k : Nat) : Bool := (List.range 4).all (keepsAt ll k)
theorem codeAt_succ (ll : List (List Int)) (k : Nat) (c : Int) : codeAt ll ((k + 1 : Nat) : Int) c = ig (ll.getD k []) c := by
  have e : ((((k + 1 : Nat) : Int) - 1).toNat) = k := by omega
  rw [codeAt, if_neg (by omega), e]
theorem keeps_rung {ll : List (List Int)} {k : Nat} : keeps ll k = (decide (k = 0) || coarser (ll.getD (k - 1) []) (ll.getD k [])) := by
  rcases k with _ | k
  · simp only [decide_true, Bool.true_or]
    refine all_range.2 fun j _ => ?_
    rw [keepsAt]; simp [codeAt]
  · have e0 : decide (k + 1 = 0) = false := by simp
    rw [e0, Bool.false_or, keeps, coarser]
    congr 1
    funext j
    rw [keepsAt, cAt, codeAt_succ, codeAt_succ, codeAt_succ, Nat.add_sub_cancel]
    have e1 : ig (ll.getD k []) (j : Int) = (ll.getD k []).getD j 0 := by simp [ig]
    have e2 : ig (ll.getD (k + 1) []) (j : Int) = (ll.getD (k + 1) []).getD j 0 := by simp [ig]
    rw [e1, e2]
    rw [Bool.eq_iff_iff, decide_eq_true_eq, decide_eq_true_eq]
    exact eq_comm
/-- What a code at a level is, once the step there is one. -/
theorem codeAt_vals {ll : List (List Int)} {k : Nat} (hst : k ≠ 0 → stepOk (ll.getD (k - 1) []) = true) {j : Nat} (hj : j < 4) : 0 ≤ codeAt ll k j ∧ codeAt ll k j ≤ 3 := by
  rcases k with _ | k
  · simp [codeAt]; omega
  · obtain ⟨_, h⟩ := stepOk_vals (hst (by omega))
    obtain ⟨v, h1, h2, _⟩ := h j hj
    rw [Nat.add_sub_cancel] at h1
    rw [codeAt_succ, ig]
    rw [show ((j : Int).toNat) = j by omega, h1]
    omega
theorem iKeeps_any (ll : List (List Int)) (h3 : ll.length ≤ 3) (A : Option Addr) (n c : Nat) (hn : n = ll.length) (k : Nat) (hk : k < ll.length) (h1 : stepOk (ll.getD k []) = true) (h0 : k ≠ 0 → stepOk (ll.getD (k - 1) []) = true)
    (w : World) (hr : LL w w.heap.size A ll) :
    Calls Try.prog 67 #[.slice A n c, .int .i64 k] w (VR (.bool (keeps ll k)) w) := by
  have HN := Lib.hid hn; clear hn
  have L1 := Lib.hid (show ∀ j : Int, (((k + 1 : Nat) : Int)) ≠ 0 → 0 ≤ j → j ≤ 3 → j.toNat < (ll.getD ((((k + 1 : Nat) : Int) - 1).toNat) []).length from fun j _ a b => by
    have e : ((((k + 1 : Nat) : Int) - 1).toNat) = k := by omega
    rw [e, (stepOk_vals h1).1]; omega)
  have L0 := Lib.hid (show ∀ j : Int, (k : Int) ≠ 0 → 0 ≤ j → j ≤ 3 → j.toNat < (ll.getD (((k : Int) - 1).toNat) []).length from fun j hk0 a b => by
    have e : ((((k : Int) - 1).toNat)) = k - 1 := by omega
    rw [e, (stepOk_vals (h0 (by omega))).1]; omega)
  have HV := Lib.hid (fun j hj => codeAt_vals (ll := ll) (k := k) h0 (j := j) hj)
  clear h0 h1
  go_enter Try.func67, Try.ntmps67
  go_wp2
  go_loopw [6] (fun i wr => ∃ j : Nat, j ≤ 4 ∧ i = .int .i64 j ∧ (∀ i, i < j → keepsAt ll k i = true) ∧ wr = w) (fun i _ => 4 - (intOf i).toNat)
  case atStart => exact ⟨0, by omega, rfl, by simp, rfl⟩
  case round =>
    obtain ⟨j, hj, rfl, hall, rfl⟩ := hrel
    have HALL := Lib.hid hall; clear hall
    by_cases hlt : j < 4
    · have hji : (j : Int) < 4 := by omega
      obtain ⟨v0, v1⟩ := HV.out j hlt
      have HK := Lib.hid (show keepsAt ll k j = decide (codeAt ll ((k + 1 : Nat) : Int) j = codeAt ll ((k + 1 : Nat) : Int) (codeAt ll k j)) from rfl)
      have ek : ((k + 1 : Nat) : Int) = (k : Int) + 1 := by omega
      obtain ⟨K1, hK1⟩ : ∃ K1, K1 = ((k + 1 : Nat) : Int) := ⟨_, rfl⟩
      obtain ⟨y, hy⟩ : ∃ y, codeAt ll k j = y := ⟨_, rfl⟩
      rw [hy] at v0 v1 HK
      have HY := Lib.hid hy; clear hy
      obtain ⟨x, hx⟩ : ∃ x, codeAt ll ((k + 1 : Nat) : Int) j = x := ⟨_, rfl⟩
      obtain ⟨z, hz⟩ : ∃ z, codeAt ll ((k + 1 : Nat) : Int) y = z := ⟨_, rfl⟩
      rw [hx, hz] at HK
      have HX := Lib.hid hx; have HZ := Lib.hid hz
      clear hx hz hK1 K1 ek
      go_wp2_with fail
      refine (iCode_any ll h3 A n c HN.out ((k + 1 : Nat) : Int) j (by omega) (by omega) (by omega) (fun h => L1.out j h (by omega) (by omega)) _ hr).mono ?_
      rintro e w' ⟨rfl, rfl⟩
      rw [HX.out]
      go_wp2_with fail
      refine (iCode_any ll h3 A n c HN.out k j (by omega) (by omega) (by omega) (fun h => L0.out j h (by omega) (by omega)) _ hr).mono ?_
      rintro e w' ⟨rfl, rfl⟩
      rw [HY.out]
      go_wp2_with fail
      refine (iCode_any ll h3 A n c HN.out ((k + 1 : Nat) : Int) y (by omega) (by omega) (by omega) (fun h => L1.out y h (by omega) (by omega)) _ hr).mono ?_
      rintro e w' ⟨rfl, rfl⟩
      rw [HZ.out]
      by_cases hxz : x = z
      · have hb : (x != z) = false := by simp [hxz]
        go_wp2
        go_roundw
        case rel =>
          refine ⟨j + 1, by omega, by go_num, fun i hi => ?_, by first | rfl | trivial⟩
          by_cases hij : i < j
          · exact HALL.out i hij
          · obtain rfl : i = j := by omega
            rw [HK.out]; simp [hxz]
        case measure => simp [intOf]; omega
      · have hb : (x != z) = true := by simp [hxz]
        go_wp2
        go_ret
        refine ⟨retb ?_, rfl⟩
        rw [keeps, all_range_no j hlt (by rw [HK.out]; simp [hxz])]
    · have hji : ¬ (j : Int) < 4 := by omega
      go_wp2
      go_ret
      refine ⟨retb ?_, rfl⟩
      rw [keeps, all_range.2 fun i hi => HALL.out i (by omega)]
theorem iValid_any (ll : List (List Int)) (A : Option Addr) (n c : Nat) (hn : n = ll.length) (hl : ll.length ≤ maxLen) (w : World) (hr : LL w w.heap.size A ll) :
    Calls Try.prog 61 #[.slice A n c] w (VR (.bool (ladOk ll)) w) := by
  have hnl : n ≤ maxLen := by rw [hn]; exact hl
  unfold maxLen at hl hnl
  have HN := Lib.hid hn; clear hn
  by_cases h3 : n ≤ 3
  · have h3' : ¬ (3 : Int) < (n : Int) := by omega
    have H3 := Lib.hid (show ll.length ≤ 3 by rw [← HN.out]; exact h3)
    go_enter Try.func61, Try.ntmps61
    go_wp2
    clear h3'
    go_loopw [10] (fun i wr => ∃ k : Nat, k ≤ n ∧ i = .int .i64 k ∧ (∀ j, j < k → rungAt ll j = true) ∧ wr = w) (fun i _ => n - (intOf i).toNat)
    case atStart => exact ⟨0, Nat.zero_le _, rfl, by simp, rfl⟩
    case round =>
      obtain ⟨k, hk, rfl, hall, rfl⟩ := hrel
      have HALL := Lib.hid hall; clear hall
      by_cases hlt : k < n
      · have hki : (k : Int) < (n : Int) := by omega
        have hkl := Lib.hid (show k < ll.length by rw [← HN.out]; exact hlt)
        obtain ⟨b, o, Ai, ci, rfl, hb, c0, h1, h2, r0⟩ := hr.at_ k hkl.out
        obtain ⟨x, hx⟩ : ∃ x, ll.getD k [] = x := ⟨_, rfl⟩
        rw [hx] at c0 r0
        have HX := Lib.hid hx; clear hx h1 h2
        obtain ⟨m, hm⟩ : ∃ m, m = x.length := ⟨_, rfl⟩
        rw [← hm] at c0
        have HM := Lib.hid hm; clear hm
        have HR := Lib.hid (show rungAt ll k = (stepOk x && keeps ll k) by rw [rungAt, HX.out, keeps_rung, HX.out])
        go_wp2_with fail
        refine (iStep_any x Ai m ci HM.out _ r0).mono ?_
        rintro e w' ⟨rfl, rfl⟩
        cases hst : stepOk x
        · have HST := Lib.hid hst; clear hst
          go_wp2
          go_ret
          refine ⟨retb ?_, rfl⟩
          rw [ladOk, all_range_no k hkl.out (by rw [HR.out, HST.out]; rfl), Bool.and_false]
        · have HST := Lib.hid hst; clear hst
          go_wp2_with fail
          refine (iKeeps_any ll H3.out _ n c HN.out k hkl.out (by rw [HX.out]; exact HST.out) (fun h0 => by
            have h := HALL.out (k - 1) (by omega)
            simp only [rungAt, Bool.and_eq_true] at h
            exact h.1) _ hr).mono ?_
          rintro e w' ⟨rfl, rfl⟩
          cases hkp : keeps ll k
          · have HKP := Lib.hid hkp; clear hkp
            go_wp2
            go_ret
            refine ⟨retb ?_, rfl⟩
            rw [ladOk, all_range_no k hkl.out (by rw [HR.out, HST.out, HKP.out]; rfl), Bool.and_false]
          · have HKP := Lib.hid hkp; clear hkp
            go_wp2
            go_roundw
            case rel =>
              refine ⟨k + 1, by omega, by go_num, fun i hi => ?_, by first | rfl | trivial⟩
              by_cases hij : i < k
              · exact HALL.out i hij
              · obtain rfl : i = k := by omega
                rw [HR.out, HST.out, HKP.out]; rfl
            case measure => simp [intOf]; omega
      · have hki : ¬ (k : Int) < (n : Int) := by omega
        go_wp2
        go_ret
        refine ⟨retb ?_, rfl⟩
        rw [ladOk, all_range.2 fun j hj => HALL.out j (by have := HN.out; omega), Bool.and_true]
        have := H3.out
        simpa using this
  · have h3' : (3 : Int) < (n : Int) := by omega
    have H3 := Lib.hid (show ¬ ll.length ≤ 3 by rw [← HN.out]; exact h3)
    go_enter Try.func61, Try.ntmps61
    go_wp2
    go_ret
    refine ⟨retb ?_, rfl⟩
    rw [ladOk]
    have := H3.out
    simp [this]
end Go.Proofs.Ytaaljmmnfgghfaa
namespace Go.Proofs.Ytaaljmmnfgghfaa
open Go.RowKit
theorem iHas_any (ll : List (List Int)) (A : Option Addr) (n c : Nat) (hn : n = ll.length) (hl : ll.length ≤ maxLen) (level : Int) (w : World) (hr : LL w w.heap.size A ll) :
    Calls Try.prog 50 #[.slice A n c, .int .i64 level] w (VR (.bool (groupOk ll level)) w) := by
  have hnl : n ≤ maxLen := by rw [hn]; exact hl
  unfold maxLen at hnl
  have HN := Lib.hid hn; clear hn
  have HG := Lib.hid (show groupOk ll level = (ladOk ll && in3 level 0 n) by rw [HN.out]; rfl)
  go_enter Try.func50, Try.ntmps50
  go_wp2_with fail
  refine (iValid_any ll A n c HN.out hl _ hr).mono ?_
  rintro e w' ⟨rfl, rfl⟩
  cases hok : ladOk ll
  · have HOK := Lib.hid hok; clear hok
    go_wp2
    go_ret
    exact ⟨retb (by rw [HG.out, HOK.out]; rfl), rfl⟩
  · have HOK := Lib.hid hok; clear hok
    by_cases h0 : 0 ≤ level
    · by_cases h1 : level ≤ n
      · go_wp2
        go_ret
        exact ⟨retb (by rw [HG.out, HOK.out]; simp [in3]; omega), rfl⟩
      · go_wp2
        go_ret
        exact ⟨retb (by rw [HG.out, HOK.out]; simp [in3]; omega), rfl⟩
    · go_wp2
      go_ret
      exact ⟨retb (by rw [HG.out, HOK.out]; simp [in3]; omega), rfl⟩
theorem lad_code {ll : List (List Int)} (h : ladOk ll = true) {level code : Int} (l0 : 0 ≤ level) (l1 : level ≤ ll.length) (c1 : code ≤ 3) : level ≠ 0 → code.toNat < (ll.getD (level - 1).toNat []).length := fun h0 => by
  rw [(stepOk_vals (lad_step h (level - 1).toNat (by omega))).1]; omega
theorem groupOk_parts {ll : List (List Int)} {level : Int} : groupOk ll level = true ↔ ladOk ll = true ∧ 0 ≤ level ∧ level ≤ ll.length := by
  simp only [groupOk, Bool.and_eq_true, in3_parts]
end Go.Proofs.Ytaaljmmnfgghfaa
namespace Go.Proofs.Ytaaljmmnfgghfaa
open Go.RowKit
def IsR (w : World) (v : Value) (ll : List (List Int)) : Prop := ∃ A c, v = .slice A ll.length c ∧ ll.length ≤ c ∧ c ≤ maxLen ∧ LL w w.heap.size A ll
abbrev InR (w : World) (B T : Nat) (v : Value) (ll : List (List Int)) : Prop := Mine w B T v ll
section
variable {w w' : World} {B T : Nat} {v : Value} {ll : List (List Int)}
theorem IsR.below (h : IsR w v ll) (hb : Below w.heap.size w w') : IsR w' v ll := by
  obtain ⟨A, c, hv, h1, h2, h3⟩ := h
  exact ⟨A, c, hv, h1, h2, h3.moved hb⟩
theorem Mine.is (h : Mine w B T v ll) : IsR w v ll := by
  obtain ⟨A, c, hv, h1, h2, h3⟩ := h.own.form
  exact ⟨A, c, hv, h1, h2, h3⟩
end
end Go.Proofs.Ytaaljmmnfgghfaa
namespace Go.Proofs.Ytaaljmmnfgghfaa
open Go.RowKit
end Go.Proofs.Ytaaljmmnfgghfaa
