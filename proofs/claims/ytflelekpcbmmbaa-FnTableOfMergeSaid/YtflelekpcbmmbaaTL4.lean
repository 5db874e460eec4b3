/- Tables and masks cut in two. -/
import Derived.Test.YtflelekpcbmmbaaTL3
import Derived.Test.YtflelekpcbmmbaaTS9
namespace Go.Proofs.Ytflelekpcbmmbaa
open Go.RowKit
theorem LL.cut {w : World} {B : Nat} {A : Option Addr} {ll : List (List Int)} {c k : Nat} (h : LL w B A ll) (hk : k ≤ ll.length) (hc : ll.length ≤ c) : LL w B (if c = k then A else A.map (·.add (k * 1))) (ll.drop k) := by
  obtain ⟨hs, h0, h1, h2⟩ := h
  refine ⟨hs.drop k, by rw [List.length_drop, List.length_drop, h0], h1.cut1 (by omega) (by omega), fun i hi => ?_⟩
  rw [List.length_drop] at hi
  obtain ⟨Ai, ci, a1, a2, a3, a4⟩ := h2 (k + i) (by omega)
  have e : (ll.drop k).getD i [] = ll.getD (k + i) [] := by rw [List.getD_eq_getElem?_getD, List.getElem?_drop, List.getD_eq_getElem?_getD]
  rw [e]
  exact ⟨Ai, ci, by rw [List.getElem?_drop]; exact a1, a2, a3, a4⟩
theorem sliceTailLL (B : Option Addr) (n d k : Nat) (hk : k ≤ n) (hn : n ≤ d) : ∃ B2, (∀ w, (Instr.sliceAt TII (.slice B n d) (some (.int .i64 (k : Int))) none none).run Try.prog w = .ok (.slice B2 (n - k) (d - k)) w) ∧
    ∀ W Bd ll, ll.length = n → LL W Bd B ll → LL W Bd B2 (ll.drop k) := by
  refine ⟨if d = k then B else B.map (·.add (k * 1)), fun w => ?_, fun W Bd l hl hr => hr.cut (by omega) (by omega)⟩
  obtain ⟨i0, hi0, hz0, hs0, hs1⟩ := info_parts (P := Try.prog) (e := TI) (z := .slice none 0 0) (size := 1) (bytes := 24) (by kernel_rfl)
  have hu : Try.prog.underlying TII = some (.slice TI) := Try.underlying25
  have he : Try.prog.elem TII = TI := by simp [Program.elem, hu]
  rw [run_sliceAt_slice w TII _ _ _ _ (by rw [he]; exact hu), run_slice_l w TII B n d (by rw [he]; exact hu) .i64 (k : Int) (by omega) (by omega)]
  rw [he]
  simp [sizeOf, typeInfo, hi0, hs0, sliced, Result.andThen]
theorem mmany_bd {m : Mk} (hl : m.length ≤ 1000) (h : ∀ r ∈ m, r.length ≤ 1000) : mmany m ≤ 1000000 := by
  have key : ∀ m : Mk, (∀ r ∈ m, r.length ≤ 1000) → mmany m ≤ 1000 * m.length := fun m => by
    induction m with
    | nil => intro _; simp [mmany]
    | cons r m ih =>
      intro h
      have h1 := ih fun x hx => h x (List.mem_cons_of_mem _ hx)
      have h2 := cntB_le r
      have h3 := h r (by simp)
      simp only [mmany, List.map_cons, List.sum_cons, List.length_cons] at *
      omega
  have := key m h
  omega
theorem modN (m n : Nat) (h : 1 ≤ n) : ∃ k : Nat, (m : Int) % (n : Int) = k ∧ k < n := ⟨m % n, by omega, Nat.mod_lt m (by omega)⟩
end Go.Proofs.Ytflelekpcbmmbaa
