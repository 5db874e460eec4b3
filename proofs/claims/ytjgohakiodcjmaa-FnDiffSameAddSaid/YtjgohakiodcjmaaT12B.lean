import Derived.Test.YtjgohakiodcjmaaA4
import Derived.Test.YtjgohakiodcjmaaA9
set_option maxRecDepth 100000
namespace Go.Proofs.Ytjgohakiodcjmaa
open Go.RowKit
theorem many_neg {l : List Pn} {a j s : Int} (h : askOk l a j s = false) : many l a j s = -1 := by simp [many, h]
theorem many_pos {l : List Pn} {a j s : Int} (h : askOk l a j s = true) : many l a j s = cnt l a j s := by simp [many, h]
theorem pay_neg {l : List Pn} {a j s : Int} (h : askOk l a j s = false) : pay l a j s = -1 := by simp [pay, h]
theorem pay_pos {l : List Pn} {a j s : Int} (h : askOk l a j s = true) : pay l a j s = psum l a j s := by simp [pay, h]
theorem cnt_app (x y : List Pn) (a j s : Int) : cnt (x ++ y) a j s = cnt x a j s + cnt y a j s := by simp [cnt]
theorem psum_app (x y : List Pn) (a j s : Int) : psum (x ++ y) a j s = psum x a j s + psum y a j s := by simp [psum]
theorem askOk_part {l l' : List Pn} {a j s : Int} (h : askOk l a j s = true) (hs : ∀ p ∈ l', p ∈ l) (hl : l'.length ≤ l.length) : askOk l' a j s = true := by
  simp only [askOk, okL, Bool.and_eq_true, decide_eq_true_eq, List.all_eq_true] at *
  exact ⟨⟨by omega, fun p hp => h.1.2 p (hs p hp)⟩, h.2⟩
theorem askOk_code {l : List Pn} {a j s a' j' s' : Int} (h : askOk l a j s = true) (h' : ask3 a' j' s' = true) : askOk l a' j' s' = true := by
  simp only [askOk, Bool.and_eq_true] at *
  exact ⟨h.1, h'⟩
theorem cnt_all (l : List Pn) : cnt l (-1) (-1) (-1) = l.length := by
  have e : l.filter (fun p => fit3 p (-1) (-1) (-1)) = l := List.filter_eq_self.2 fun p _ => by simp [fit3, fit1]
  rw [cnt, e]
/-- The row behind a cut at k. -/
theorem Row.cut {w : World} {B : Nat} {A : Option Addr} {l : List Pn} {c k : Nat} (h : Row w B A (pcells l)) (hk : k ≤ l.length) (hc : l.length ≤ c) :
    Row w B (if c = k then A else A.map (·.add (k * 4))) (pcells (l.drop k)) := by
  by_cases hkl : k = l.length
  · left; rw [List.drop_eq_nil_of_le (by omega)]; rfl
  · rcases h with h | ⟨b, o, rfl, hb, hcell⟩
    · have := pcells_length l; rw [h] at this; simp at this; omega
    · right
      rw [if_neg (by omega)]
      refine ⟨b, o + k * 4, by simp [Addr.add_lit], hb, fun j u hu => ?_⟩
      rw [Nat.add_assoc]
      refine hcell (k * 4 + j) u ?_
      rw [← hu]
      have e : pcells (l.drop k) = (pcells l).drop (k * 4) := by
        have h1 : pcells l = pcells (l.take k) ++ pcells (l.drop k) := by simp only [pcells, ← List.flatMap_append, List.take_append_drop]
        rw [h1, List.drop_left' (by rw [pcells_length, List.length_take]; omega)]
      rw [e, List.getElem?_drop]
theorem Row.front {w : World} {B : Nat} {A : Option Addr} {l : List Pn} {k : Nat} (h : Row w B A (pcells l)) : Row w B A (pcells (l.take k)) := by
  rcases h with h | ⟨b, o, rfl, hb, hcell⟩
  · left
    have := pcells_length l; rw [h] at this; simp at this
    have hn : l = [] := List.eq_nil_of_length_eq_zero (by omega)
    rw [hn]; simp [pcells]
  · right
    refine ⟨b, o, rfl, hb, fun j u hu => hcell j u ?_⟩
    have h1 : pcells l = pcells (l.take k) ++ pcells (l.drop k) := by simp only [pcells, ← List.flatMap_append, List.take_append_drop]
    rw [h1, List.getElem?_append_left (List.getElem?_eq_some_iff.1 hu).1]; exact hu
/-- The cut list[k:], its address under one name. -/
theorem slice_tail (B : Option Addr) (n d k : Nat) (hk : k ≤ n) (hn : n ≤ d) : ∃ B2, (∀ w, (Instr.sliceAt TPS (.slice B n d) (some (.int .i64 k)) none none).run Try.prog w = .ok (.slice B2 (n - k) (d - k)) w) ∧
    ∀ W Bd l, l.length = n → Row W Bd B (pcells l) → Row W Bd B2 (pcells (l.drop k)) := by
  refine ⟨if d = k then B else B.map (·.add (k * 4)), fun w => ?_, fun W Bd l hl hr => hr.cut (by omega) (by omega)⟩
  obtain ⟨i0, hi0, _, hz1, _⟩ := info_parts info_P
  have hu : Try.prog.underlying TPS = some (.slice TP) := Try.underlying23
  have he : Try.prog.elem TPS = TP := by simp [Program.elem, hu]
  rw [run_sliceAt_slice w TPS _ _ _ _ (by rw [he]; exact hu), run_slice_l w TPS B n d (by rw [he]; exact hu) .i64 (k : Int) (by omega) (by omega)]
  rw [he]
  simp [sizeOf, typeInfo, hi0, hz1, sliced, Result.andThen]
theorem mod_cut (m n : Nat) : ∃ k : Nat, (m : Int) % ((n : Int) + 1) = k ∧ k ≤ n :=
  ⟨m % (n + 1), by simp, by have := Nat.mod_lt m (show 0 < n + 1 by omega); omega⟩
end Go.Proofs.Ytjgohakiodcjmaa
