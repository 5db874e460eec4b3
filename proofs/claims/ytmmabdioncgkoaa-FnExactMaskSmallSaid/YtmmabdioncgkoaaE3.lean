import Derived.Test.YtmmabdioncgkoaaE2
namespace Go.Proofs.Ytmmabdioncgkoaa
open Go.RowKit
theorem eqP_self (p : Pn) : eqP p p = true := by simp [eqP]
theorem eqS_any (l : List Pn) (A B : Option Addr) (c d : Nat) (hl : l.length ≤ 1048576) (W : World) (ha : Row W W.heap.size A (pcells l)) (hb : Row W W.heap.size B (pcells l)) :
    Calls Try.prog 21 #[.slice A l.length c, .slice B l.length d] W fun e w' => e = .returned (.bool true) ∧ Below W.heap.size W w' := by
  go_enter Try.func21, Try.ntmps21
  go_wp2
  go_loopw [5] (fun i wr => ∃ k : Nat, k ≤ l.length ∧ i = .int .i64 k ∧ Below W.heap.size W wr) (fun i _ => l.length - (intOf i).toNat)
  case atStart => exact ⟨0, Nat.zero_le _, rfl, Below.refl _ _⟩
  case round =>
    obtain ⟨k, hk, rfl, h1⟩ := hrel
    by_cases hlt : k < l.length
    · obtain ⟨x, o, rfl, hx, c0, c1, c2, c3⟩ := ha.at_ k hlt
      obtain ⟨y, u, rfl, hy, d0, d1, d2, d3⟩ := hb.at_ k hlt
      have HF := Lib.hid (show ∀ w' : World, Below W.heap.size W w' → (Below W.heap.size W w' ∧ w'.cell? ⟨x, o + k * 4, none⟩ = some (.int .i64 l[k].area) ∧ w'.cell? ⟨x, o + k * 4 + 1, none⟩ = some (.int .i64 l[k].job) ∧ w'.cell? ⟨x, o + k * 4 + 2, none⟩ = some (.int .i64 l[k].sex) ∧ w'.cell? ⟨x, o + k * 4 + 3, none⟩ = some (.int .i64 l[k].pay) ∧
          w'.cell? ⟨y, u + k * 4, none⟩ = some (.int .i64 l[k].area) ∧ w'.cell? ⟨y, u + k * 4 + 1, none⟩ = some (.int .i64 l[k].job) ∧ w'.cell? ⟨y, u + k * 4 + 2, none⟩ = some (.int .i64 l[k].sex) ∧ w'.cell? ⟨y, u + k * 4 + 3, none⟩ = some (.int .i64 l[k].pay)) from
        fun w' h => ⟨h, (h.cell hx).trans c0, (h.cell hx).trans c1, (h.cell hx).trans c2, (h.cell hx).trans c3, (h.cell hy).trans d0, (h.cell hy).trans d1, (h.cell hy).trans d2, (h.cell hy).trans d3⟩)
      clear c0 c1 c2 c3 d0 d1 d2 d3
      have h1d : Below W.heap.size W wr.drew := h1.drew
      go_wp2
      go_region_held3 (fun w' => Below W.heap.size W w' ∧ w'.cell? ⟨x, o + k * 4, none⟩ = some (.int .i64 l[k].area) ∧ w'.cell? ⟨x, o + k * 4 + 1, none⟩ = some (.int .i64 l[k].job) ∧ w'.cell? ⟨x, o + k * 4 + 2, none⟩ = some (.int .i64 l[k].sex) ∧ w'.cell? ⟨x, o + k * 4 + 3, none⟩ = some (.int .i64 l[k].pay) ∧
          w'.cell? ⟨y, u + k * 4, none⟩ = some (.int .i64 l[k].area) ∧ w'.cell? ⟨y, u + k * 4 + 1, none⟩ = some (.int .i64 l[k].job) ∧ w'.cell? ⟨y, u + k * 4 + 2, none⟩ = some (.int .i64 l[k].sex) ∧ w'.cell? ⟨y, u + k * 4 + 3, none⟩ = some (.int .i64 l[k].pay))
        (first | exact HF.out _ (by assumption) | exact HF.out _ h1d)
        (first | (go_at_call 56; refine (eqPerson_any l[k] l[k] _).mono ?_; rintro e w3 ⟨rfl, h3⟩; rw [eqP_self]; have h4 : Below W.heap.size W w3 := Below.trans (by first | assumption | exact h1d) (h3.mono (by have := h1.size; simp; omega))))
      go_wp2
      go_roundw
      case rel => exact ⟨k + 1, by omega, by go_num, by assumption⟩
      case measure => simp [intOf]; omega
    · go_wp2
      go_ret
      exact ⟨rfl, h1⟩

end Go.Proofs.Ytmmabdioncgkoaa
