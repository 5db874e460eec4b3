import Derived.Test.YtjgohakiodcjmaaS3
import Derived.Test.YtjgohakiodcjmaaS4
set_option maxRecDepth 100000
namespace Go.Proofs.Ytjgohakiodcjmaa
open Go.RowKit
/-- A list in memory, and whether it was told. -/
def Told (m : List Pn) (t : Bool) (w : World) (e : Ending) (w' : World) : Prop :=
  ∃ A c, e = .returned (.tuple #[.slice A m.length c, .bool t]) ∧ Row w' w'.heap.size A (pcells m) ∧ m.length ≤ c ∧ c ≤ maxLen ∧ Below w.heap.size w w'
theorem Outed.told {m : List Pn} {t : Bool} {w w' : World} {e : Ending} (h : Outed m t w e w') : Told m t w e w' := by
  obtain ⟨v, rfl, ho, hb⟩ := h
  obtain ⟨A, c, rfl, h1, h2, _, _⟩ := ho.form
  exact ⟨A, c, rfl, ho.row, h1, h2, hb⟩
theorem yes_at (l : List Pn) (n : Nat) (hn : n = l.length) (A : Option Addr) (c k : Nat) (i : Int) (hi : i = k) (hk : k < l.length) (w : World) (hr : Row w w.heap.size A (pcells l)) (hok : okL l = true) (m : List Pn) (hm : m = less1 l k) :
    Calls Try.prog 19 #[.slice A n c, .int .i64 i] w (Told m true w) := by
  subst hn hi hm; exact (without_yes l A c k hk w hr hok).mono fun e w' h => h.told
theorem no_at (l : List Pn) (n : Nat) (hn : n = l.length) (A : Option Addr) (c : Nat) (i : Int) (w : World) (hr : Row w w.heap.size A (pcells l)) (hl : l.length ≤ maxLen) (h : okL l = false ∨ i < 0 ∨ (l.length : Int) ≤ i) (m : List Pn) (hm : m = []) :
    Calls Try.prog 19 #[.slice A n c, .int .i64 i] w (Told m false w) := by
  subst hn hm; exact (without_no l A c i w hr hl h).mono fun e w' h => h.told
theorem sYes_at (l : List Pn) (n : Nat) (hn : n = l.length) (A : Option Addr) (c k : Nat) (i : Int) (hi : i = k) (hk : k < l.length) (hlc : l.length ≤ c) (w : World) (hr : Row w w.heap.size A (pcells l)) (hok : okL l = true) (m : List Pn) (hm : m = less1 l k) :
    Calls Try.prog 20 #[.slice A n c, .int .i64 i] w (Told m true w) := by
  subst hn hi hm; exact (sWithout_yes l A c k hk hlc w hr hok).mono fun e w' h => h.told
theorem sNo_at (l : List Pn) (n : Nat) (hn : n = l.length) (A : Option Addr) (c : Nat) (i : Int) (w : World) (hr : Row w w.heap.size A (pcells l)) (hl : l.length ≤ maxLen) (h : okL l = false ∨ i < 0 ∨ (l.length : Int) ≤ i) (m : List Pn) (hm : m = []) :
    Calls Try.prog 20 #[.slice A n c, .int .i64 i] w (Told m false w) := by
  subst hn hm; exact (sWithout_no l A c i w hr hl h).mono fun e w' h => h.told
theorem same_at (l : List Pn) (n1 n2 : Nat) (h1 : n1 = l.length) (h2 : n2 = l.length) (A B : Option Addr) (c d : Nat) (hl : l.length ≤ 1000000) (w : World) (ha : Row w w.heap.size A (pcells l)) (hb : Row w w.heap.size B (pcells l)) :
    Calls Try.prog 21 #[.slice A n1 c, .slice B n2 d] w fun e w' => e = .returned (.bool true) ∧ Below w.heap.size w w' := by
  subst h1 h2; exact same_any l A B c d hl w ha hb
theorem yes_or_no (l : List Pn) (k : Int) : (okL l = true ∧ ∃ q : Nat, k = q ∧ q < l.length) ∨ (okL l = false ∨ k < 0 ∨ (l.length : Int) ≤ k) := by
  cases h : okL l
  · exact .inr (.inl rfl)
  · by_cases h0 : k < 0
    · exact .inr (.inr (.inl h0))
    · by_cases h1 : (l.length : Int) ≤ k
      · exact .inr (.inr (.inr h1))
      · exact .inl ⟨rfl, k.toNat, by omega, by omega⟩
theorem less1_len {l : List Pn} {k : Nat} (hk : k < l.length) : (less1 l k).length = l.length - 1 := by
  simp [less1]; omega
theorem less1_mem {l : List Pn} {k : Nat} {p : Pn} (h : p ∈ less1 l k) : p ∈ l := by
  rcases List.mem_append.1 h with h | h
  · exact List.mem_of_mem_take h
  · exact List.mem_of_mem_drop h
theorem less1_ok {l : List Pn} {k : Nat} (hk : k < l.length) (h : okL l = true) : okL (less1 l k) = true := by
  have h0 := less1_len hk
  simp only [okL, Bool.and_eq_true, decide_eq_true_eq, List.all_eq_true] at *
  exact ⟨by omega, fun p hp => h.2 p (less1_mem hp)⟩
theorem less1_zero (l : List Pn) : less1 l 0 = l.drop 1 := by simp [less1]
theorem less1_back {l : List Pn} {k : Nat} (hk : k < l.length) : (less1 l k).take k ++ [l[k]] ++ (less1 l k).drop k = l := by
  have h : (l.take k).length = k := by simp; omega
  rw [less1, List.take_left' h, List.drop_left' h, ← List.take_succ_eq_append_getElem hk]
  exact List.take_append_drop _ _
theorem less1_two {l : List Pn} (k : Nat) : less1 (less1 l (k + 1)) 0 = less1 (less1 l 0) k := by
  rw [less1_zero, less1_zero]
  cases l with
  | nil => simp [less1]
  | cons p l => simp [less1]
theorem less1_two0 {l : List Pn} : less1 (less1 l 0) 0 = less1 (less1 l 1) 0 := (less1_two 0).symm
theorem cnt_less1 {l : List Pn} {k : Nat} (hk : k < l.length) (a j s : Int) : cnt l a j s = cnt (less1 l k) a j s + if fit3 l[k] a j s = true then 1 else 0 := by
  have h := cnt_take l a j s k hk
  have h2 : cnt l a j s = cnt (l.take (k + 1)) a j s + cnt (l.drop (k + 1)) a j s := by rw [← cnt_app, List.take_append_drop]
  rw [h2, h, less1, cnt_app]; omega
theorem psum_less1 {l : List Pn} {k : Nat} (hk : k < l.length) (a j s : Int) : psum l a j s = psum (less1 l k) a j s + if fit3 l[k] a j s = true then l[k].pay else 0 := by
  have h := psum_take l a j s k hk
  have h2 : psum l a j s = psum (l.take (k + 1)) a j s + psum (l.drop (k + 1)) a j s := by rw [← psum_app, List.take_append_drop]
  rw [h2, h, less1, psum_app]; omega
end Go.Proofs.Ytjgohakiodcjmaa
