/- Contributions: what the model says of them. -/
import Derived.Test.YtfaffpfjgipifaaQK
namespace Go.Proofs.Ytfaffpfjgipifaa
open Go.RowKit
theorem Row.front1 {w : World} {B : Nat} {A : Option Addr} {hs : List Value} (k : Nat) (h : Row w B A hs) : Row w B A (hs.take k) := by
  rcases h with h | ⟨b, o, rfl, hb, hc⟩
  · left; rw [h]; simp
  · right
    refine ⟨b, o, rfl, hb, fun j u hu => hc j u ?_⟩
    rw [List.getElem?_take] at hu
    split at hu
    · exact hu
    · cases hu
theorem Row.cut1 {w : World} {B : Nat} {A : Option Addr} {hs : List Value} {c k : Nat} (h : Row w B A hs) (hk : k ≤ hs.length) (hc : hs.length ≤ c) :
    Row w B (if c = k then A else A.map (·.add (k * 1))) (hs.drop k) := by
  by_cases hkl : k = hs.length
  · left; rw [List.drop_eq_nil_of_le (by omega)]
  · rcases h with h | ⟨b, o, rfl, hb, hcell⟩
    · rw [h] at hk hkl; simp at hk hkl; omega
    · right
      rw [if_neg (by omega)]
      refine ⟨b, o + k * 1, by simp [Addr.add_lit], hb, fun j u hu => ?_⟩
      rw [Nat.mul_one, Nat.add_assoc]
      refine hcell (k + j) u ?_
      rw [← hu, List.getElem?_drop]
theorem sliceTailI (B : Option Addr) (n d k : Nat) (hk : k ≤ n) (hn : n ≤ d) : ∃ B2, (∀ w, (Instr.sliceAt TI (.slice B n d) (some (.int .i64 (k : Int))) none none).run Try.prog w = .ok (.slice B2 (n - k) (d - k)) w) ∧
    ∀ W Bd hs, hs.length = n → Row W Bd B hs → Row W Bd B2 (hs.drop k) := by
  refine ⟨if d = k then B else B.map (·.add (k * 1)), fun w => ?_, fun W Bd l hl hr => hr.cut1 (by omega) (by omega)⟩
  obtain ⟨i0, hi0, hz0, hs0, hs1⟩ := info_parts (P := Try.prog) (e := TN) (z := .int .i64 0) (size := 1) (bytes := 8) (by kernel_rfl)
  have hu : Try.prog.underlying TI = some (.slice TN) := Try.underlying23
  have he : Try.prog.elem TI = TN := by simp [Program.elem, hu]
  rw [run_sliceAt_slice w TI _ _ _ _ (by rw [he]; exact hu), run_slice_l w TI B n d (by rw [he]; exact hu) .i64 (k : Int) (by omega) (by omega)]
  rw [he]
  simp [sizeOf, typeInfo, hi0, hs0, sliced, Result.andThen]
set_option maxHeartbeats 1000000 in
theorem sPV_any (l : List Int) (v : Value) (w : World) (hv : IsI w v l) (g : Bool) (hg : pOk l = g) : Calls Try.prog 29 #[v] w (Same (.bool g) w) := by
  obtain ⟨A, c, rfl, a1, a2, a3⟩ := hv
  have HG := Lib.hid hg
  have HR := Lib.hid a3
  obtain ⟨q, hq⟩ : ∃ q, q = l.length := ⟨_, rfl⟩
  have HQ := Lib.hid hq
  have hq9 : q ≤ 2 ^ 63 - 1 := by have : maxLen = 2 ^ 63 - 1 := rfl; omega
  rw [← hq]
  clear hg a1 a2 a3 hq
  go_enter Try.func29, Try.ntmps29
  go_wp2
  go_loopw [3] (fun i wr => ∃ k : Nat, k ≤ q ∧ i = .int .i64 k ∧ wr = w ∧ ∀ x ∈ l.take k, 0 ≤ x ∧ x ≤ 100000) (fun i _ => q - (intOf i).toNat)
  case atStart => exact ⟨0, Nat.zero_le _, rfl, rfl, by simp⟩
  case round =>
    obtain ⟨k, hk, rfl, rfl, hall⟩ := hrel
    have HA := Lib.hid hall
    clear hall
    by_cases hlt : k < q
    · have hki : (k : Int) < (q : Int) := by omega
      obtain ⟨b, o, rfl, _, c0⟩ := HR.out.int_ k (by rw [← HQ.out]; exact hlt)
      obtain ⟨x, hx⟩ : ∃ x, l.getD k 0 = x := ⟨_, rfl⟩
      rw [hx] at c0
      have HX := Lib.hid hx
      clear hx
      by_cases h0 : 0 ≤ x ∧ x ≤ 100000
      · have HI := Lib.hid (in3_parts.2 h0)
        have H0 := Lib.hid h0
        clear h0
        go_wp2_with (go_at_call 30; refine (l6In_any _ _ _ _).mono ?_; rintro e w' ⟨rfl, rfl⟩; rw [HI.out])
        go_roundw
        case rel => exact ⟨k + 1, by omega, by go_num, trivial, all_take_snoc l k (by rw [← HQ.out]; exact hlt) _ HA.out (by rw [HX.out]; exact H0.out)⟩
        case measure => simp [intOf]; omega
      · have HI := Lib.hid (show in3 x 0 100000 = false by rw [Bool.eq_false_iff]; intro h; exact h0 (in3_parts.1 h))
        have H0 := Lib.hid h0
        clear h0
        go_wp2_with (go_at_call 30; refine (l6In_any _ _ _ _).mono ?_; rintro e w' ⟨rfl, rfl⟩; rw [HI.out])
        go_ret
        exact ⟨retb (by rw [← HG.out, pOk_no (k := k) (by rw [← HQ.out]; exact hlt) (by rw [HX.out]; exact H0.out)]), rfl⟩
    · have hall2 : ∀ x ∈ l, 0 ≤ x ∧ x ≤ 100000 := fun x hx => HA.out x (by rw [List.take_of_length_le (by rw [← HQ.out]; omega)]; exact hx)
      have HE := Lib.hid (show decide (q ≤ 20) = g by
        rw [← HG.out]; unfold pOk
        rw [← HQ.out, List.all_eq_true.2 (fun x hx => in3_parts.2 (hall2 x hx)), Bool.and_true])
      clear hall2
      go_wp2
      go_ret
      exact ⟨retb (by rw [← HE.out]; rw [Bool.eq_iff_iff]; simp; try omega), rfl⟩
end Go.Proofs.Ytfaffpfjgipifaa
