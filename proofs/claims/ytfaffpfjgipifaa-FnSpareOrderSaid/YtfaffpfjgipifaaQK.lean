/- Contributions: taking the greatest ones out of a heap. -/
import Derived.Test.YtfaffpfjgipifaaQT
namespace Go.Proofs.Ytfaffpfjgipifaa
open Go.RowKit
/-- Numbers in the range of contributions, no more than 20. -/
def Bd (D : List Int) : Prop := D.length ≤ 20 ∧ ∀ x ∈ D, 0 ≤ x ∧ x ≤ 100000
theorem Bd.drop {D : List Int} (h : Bd D) (k : Nat) : Bd (D.drop k) := ⟨by have := h.1; rw [List.length_drop]; omega, fun x hx => h.2 x (List.mem_of_mem_drop hx)⟩
theorem Bd.sum {D : List Int} (h : Bd D) : 0 ≤ D.sum ∧ D.sum ≤ 2000000 := by
  have h1 := nn_sum (l := D) fun x hx => (h.2 x hx).1
  have h2 := sum_le_mul (l := D) (M := 100000) fun x hx => (h.2 x hx).2
  have := h.1
  omega
theorem Bd.take {D : List Int} (h : Bd D) (k : Nat) : Bd (D.take k) := ⟨by have := h.1; have := List.length_take_le k D; rw [List.length_take]; omega, fun x hx => h.2 x (List.mem_of_mem_take hx)⟩
theorem Bd.ds {l : List Int} (h : pOk l = true) : Bd (ds l) := ⟨by rw [ds_len]; exact (pOk_parts.1 h).1, fun x hx => (pOk_parts.1 h).2 x (ds_mem.1 hx)⟩
theorem drop_at {D : List Int} {k : Nat} (hk : k < D.length) : D.drop k = D.getD k 0 :: D.drop (k + 1) := by
  rw [List.drop_eq_getElem_cons hk, List.getD_eq_getElem?_getD, List.getElem?_eq_getElem hk]; rfl
theorem take_sum {D : List Int} {k : Nat} (hk : k < D.length) : (D.take (k + 1)).sum = (D.take k).sum + D.getD k 0 := by
  rw [List.take_succ_eq_append_getElem hk, List.sum_append, List.getD_eq_getElem?_getD, List.getElem?_eq_getElem hk]; simp
section
variable {w w' : World} {B T p : Nat} {v : Value} {a D : List Int}
theorem TurnW.start (h : HS w B T p D) : TurnW B T p D w w := ⟨Within.refl _ _ _, h⟩
def Taken (B T p : Nat) (D : List Int) (k : Nat) (w : World) (e : Ending) (w' : World) : Prop := e = .returned (.int .i64 (D.take k).sum) ∧ TurnW B T p (D.drop k) w w'
set_option maxHeartbeats 2000000 in
theorem take_any (h : HS w B T p D) (hbd : Bd D) (n : Int) (k : Nat) (hk : k = n.toNat) : Calls Try.prog 34 #[pt p, .int .i64 n] w (Taken B T p D k w) := by
  obtain ⟨v, a, h1, h2, h3, h4⟩ := h.len
  have HH := Lib.hid h
  have HD := Lib.hid hbd
  have c0 := h1.cell.1
  have HL := Lib.hid (show (a.length : Int) = (D.length : Int) by rw [h4])
  have H1 := Lib.hid h1
  have hq9 : D.length ≤ 20 := hbd.1
  obtain ⟨q, hq⟩ : ∃ q, D.length = q := ⟨_, rfl⟩
  have HQ := Lib.hid hq
  rw [hq] at HL hq9
  have HK := Lib.hid hk
  clear h h1 h2 h3 h4 hbd hq hk
  obtain ⟨m, hm⟩ : ∃ m, m = min k q := ⟨_, rfl⟩
  have hmq : m ≤ q := by omega
  have HM := Lib.hid (show D.take k = D.take m ∧ D.drop k = D.drop m by
    by_cases hkq : k ≤ q
    · rw [show m = k by omega]; exact ⟨rfl, rfl⟩
    · rw [show m = q by omega, List.take_of_length_le (by rw [HQ.out]; omega), List.take_of_length_le (i := q) (by rw [HQ.out]; omega), List.drop_eq_nil_of_le (by rw [HQ.out]; omega), List.drop_eq_nil_of_le (i := q) (by rw [HQ.out]; omega)]; exact ⟨rfl, rfl⟩)
  have hcase : (n = (m : Int) ∧ (m : Int) < (q : Int)) ∨ (n = (m : Int) ∧ m = q) ∨ ((m : Int) < n ∧ m = q) ∨ (n < 0 ∧ m = 0) := by have := HK.out; omega
  have HM0 := Lib.hid hm
  clear hm
  have hTA := fun x => asI x
  rcases hcase with ⟨rfl, hnm⟩ | ⟨rfl, rfl⟩ | ⟨hlt, rfl⟩ | ⟨hlt, rfl⟩
  rotate_left 3
  · have hlt2 : n < (q : Int) := by omega
    go_enter Try.func34, Try.ntmps34
    go_wp2_with (first
      | (go_at_call 39; (with_reducible refine (lenv_any H1.out (q : Int) HL.out).mono ?_); rintro e w' ⟨rfl, rfl⟩))
    go_loopw [5, 12] (fun s i wr => s = .int .i64 0 ∧ i = .int .i64 0 ∧ wr = w) (fun _ i _ => (intOf i).toNat)
    case atStart => exact ⟨rfl, rfl, rfl⟩
    case round =>
      obtain ⟨rfl, rfl, rfl⟩ := hrel
      go_wp2
      go_ret
      exact ⟨reti (by rw [HM.out.1]; rfl), by rw [HM.out.2]; exact TurnW.start HH.out⟩
  all_goals
    go_enter Try.func34, Try.ntmps34
    go_wp2_with (first
      | (go_at_call 39; (with_reducible refine (lenv_any H1.out _ HL.out).mono ?_); rintro e w' ⟨rfl, rfl⟩))
    go_loopw [5, 12] (fun s i wr => ∃ j : Nat, j ≤ m ∧ i = .int .i64 j ∧ s = .int .i64 (D.take j).sum ∧ TurnW B T p (D.drop j) w wr) (fun _ i _ => m - (intOf i).toNat)
    case atStart => exact ⟨0, Nat.zero_le _, rfl, by rw [List.take_zero]; rfl, TurnW.start HH.out⟩
    case round =>
      obtain ⟨j, hj, rfl, rfl, ht⟩ := hrel
      have HT := Lib.hid ht
      clear ht
      by_cases hlt3 : j < m
      · have hji : (j : Int) < (m : Int) := by omega
        have hjD : j < D.length := by rw [HQ.out]; omega
        have hs1 := (HD.out.take j).sum
        have hs2 := HD.out.2 (D.getD j 0) (by rw [List.getD_eq_getElem?_getD, List.getElem?_eq_getElem hjD]; exact List.getElem_mem _)
        have HSM := Lib.hid (take_sum hjD)
        have HDA := Lib.hid (drop_at hjD)
        have HL9 := Lib.hid (show (D.drop (j + 1)).length ≤ 900 by rw [List.length_drop]; have := HD.out.1; omega)
        clear hjD
        obtain ⟨s, hs⟩ : ∃ s, (D.take j).sum = s := ⟨_, rfl⟩
        obtain ⟨x, hx⟩ : ∃ x, D.getD j 0 = x := ⟨_, rfl⟩
        rw [hs] at hs1 HSM
        rw [hx] at hs2 HSM HDA
        rw [hs]
        clear hs hx
        have HTT := Lib.hid HT.out.1
        have HP := Lib.hid (show HS wr B T p (x :: D.drop (j + 1)) by rw [← HDA.out]; exact HT.out.2)
        go_wp2_with (first
          | (go_at_call 40; (with_reducible refine (hpop_any HP.out HL9.out).mono ?_); rintro e w2 ⟨rfl, hb2, hs2'⟩
             have HB2 := Lib.hid hb2
             have HS2 := Lib.hid hs2'
             clear hb2 hs2'))
        go_roundw
        case rel => exact ⟨j + 1, by omega, by go_num, by rw [HSM.out], wth_trans HTT.out HB2.out, HS2.out⟩
        case measure => simp [intOf]; omega
      · have hjm : j = m := by omega
        subst hjm
        go_wp2
        go_ret
        exact ⟨reti (by rw [HM.out.1]), by rw [HM.out.2]; exact HT.out⟩
theorem take_nat (h : HS w B T p D) (hbd : Bd D) (k : Nat) (n : Int) (hn : n = k) : Calls Try.prog 34 #[pt p, .int .i64 n] w (Taken B T p D k w) :=
  take_any h hbd n k (by omega)
set_option maxHeartbeats 1000000 in
theorem rest_any (h : HS w B T p D) (hbd : Bd D) : Calls Try.prog 42 #[pt p] w fun e w' => e = .returned (.int .i64 D.sum) ∧ TurnW B T p [] w w' := by
  obtain ⟨v, a, h1, h2, h3, h4⟩ := h.len
  have HH := Lib.hid h
  have HD := Lib.hid hbd
  have c0 := h1.cell.1
  have HL := Lib.hid (show (a.length : Int) = (D.length : Int) by rw [h4])
  have H1 := Lib.hid h1
  clear h h1 h2 h3 h4 hbd
  go_enter Try.func42, Try.ntmps42
  go_wp2_with (first
    | (go_at_call 39; (with_reducible refine (lenv_any H1.out _ HL.out).mono ?_); rintro e w' ⟨rfl, rfl⟩)
    | (go_at_call 34; (with_reducible refine (take_nat HH.out HD.out D.length _ rfl).mono ?_); rintro e w' ⟨rfl, ht⟩
       rw [List.drop_length] at ht
       rw [List.take_length]
       have HT := Lib.hid ht
       clear ht))
  go_ret
  exact ⟨rfl, HT.out⟩
theorem percent_any (n : Int) (g : Bool) (hg : in3 n 0 100 = g) (w : World) : Calls Try.prog 41 #[.int .i64 n] w (Same (.bool g) w) := by
  subst hg
  go_enter Try.func41, Try.ntmps41
  go_wp2
  all_goals (go_ret; exact ⟨retb (by rw [Bool.eq_iff_iff]; simp [in3]; try omega), rfl⟩)
end
end Go.Proofs.Ytfaffpfjgipifaa
