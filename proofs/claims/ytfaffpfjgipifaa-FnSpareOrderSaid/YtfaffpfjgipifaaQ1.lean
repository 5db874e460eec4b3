/- Contributions: words for lists of integers in memory. -/
import Derived.Test.YtfaffpfjgipifaaA1
import Derived.Test.YtfaffpfjgipifaaPH
import Derived.Deep.RegionLaw
import Derived.RegionTactic
import Derived.IntWalk
namespace Go.Proofs.Ytfaffpfjgipifaa
open Go.RowKit
abbrev TN : TypeId := 3
abbrev TI : TypeId := 23
theorem one_I : OneCell TI TN := ⟨Try.underlying23, .int .i64 0, 8, by kernel_rfl, rfl, by omega⟩
def icells (x : List Int) : List Value := x.map (Value.int .i64)
theorem icells_len (x : List Int) : (icells x).length = x.length := by simp [icells]
theorem icells_app (x y : List Int) : icells (x ++ y) = icells x ++ icells y := by simp [icells]
theorem icells_one (x : List Int) : ∀ u ∈ icells x, u.oneCell' = true := by
  intro u hu; obtain ⟨v, _, rfl⟩ := List.mem_map.1 hu; rfl
theorem icells_get {x : List Int} {k : Nat} (hk : k < x.length) : (icells x)[k]? = some (.int .i64 (x.getD k 0)) := by
  rw [icells, List.getElem?_map, List.getElem?_eq_getElem hk, List.getD_eq_getElem?_getD, List.getElem?_eq_getElem hk]; rfl
theorem Row.int_ {w : World} {B : Nat} {A : Option Addr} {x : List Int} (h : Row w B A (icells x)) (k : Nat) (hk : k < x.length) :
    ∃ b o, A = some ⟨b, o, none⟩ ∧ b < B ∧ w.cell? ⟨b, o + k, none⟩ = some (.int .i64 (x.getD k 0)) := by
  rcases h with h | ⟨b, o, hA, hb, hc⟩
  · have := icells_len x; rw [h] at this; simp at this; omega
  · exact ⟨b, o, hA, hb, hc k _ (icells_get hk)⟩
abbrev nilS : Value := .slice none 0 0
theorem Own1.same {T : TypeId} {w w' : World} {B : Nat} {v : Value} {cs : List Value} (h : Own1 T w B v cs) (hk : ∀ k, v.ownBlock = some k → w'.heap[k]? = w.heap[k]?) : Own1 T w' B v cs := by
  obtain ⟨h1, h2⟩ := h
  refine ⟨h1, ?_⟩
  rcases h2 with h2 | ⟨g, cap, cur, rfl, hg, hh, r⟩
  · exact .inl h2
  · exact .inr ⟨g, cap, cur, rfl, hg, (hk g rfl).trans hh, r⟩
def QR (v : Value) (w : World) (e : Ending) (w' : World) : Prop := e = .returned v ∧ ∃ m, w' = w.drewN m
theorem QR.draws {v : Value} {w : World} {m : Nat} {f : FuncId} {args : Array Value} (h : Calls Try.prog f args (w.drewN m) (QR v (w.drewN m))) : Calls Try.prog f args (w.drewN m) (QR v w) := Calls.quiet_of h
theorem l6In_q (x a b : Int) (t : Bool) (h : in3 x a b = t) (w : World) : Calls Try.prog 30 #[.int .i64 x, .int .i64 a, .int .i64 b] w (QR (.bool t) w) := by
  subst h; exact (l6In_any x a b w).mono fun e w' ⟨he, hw⟩ => ⟨he, 0, hw.symm⟩
theorem qret {v v' : Value} {w w' : World} (h : v = v') (m : Nat) (hw : w' = w.drewN m) : QR v' w (.returned v) w' := ⟨by rw [h], m, hw⟩
theorem made_one (z : Value) (n : Nat) : (madeCells #[z] (n * 1)).toList = List.replicate n z := by
  refine List.ext_getElem? fun i => ?_
  by_cases hi : i < n * 1
  · simp only [madeCells, Array.toList_map, Array.toList_range, List.getElem?_map, List.getElem?_range hi, Option.map_some]
    rw [List.getElem?_replicate, if_pos (by omega)]
    simp [Nat.mod_one]
  · rw [List.getElem?_eq_none (by simp [madeCells]; omega), List.getElem?_eq_none (by simp; omega)]
section
variable {T : TypeId} {w w' : World} {B g n c : Nat} {cs : List Value}
theorem Own1.cellAt (h : Own1 T w B (.slice (some ⟨g, 0, none⟩) n c) cs) (k : Nat) (hk : k < cs.length) : w.cell? ⟨g, k, none⟩ = cs[k]? ∧ w.frozen? ⟨g, k, none⟩ = false := by
  rcases h.2 with ⟨hv, _⟩ | ⟨g', cap, cur, hv, _, hh, hnc, _, hsz, ht⟩
  · cases hv
  · injection hv with hv
    injection hv with hv
    injection hv with hv
    subst hv
    refine ⟨?_, frozen_of_row w g k _ _ hh⟩
    rw [cell_of_row w g k cur T (0, 0) hh, ← ht, List.getElem?_take, if_pos (by omega)]
    simp
theorem Own1.setAt (h : Own1 T w B (.slice (some ⟨g, 0, none⟩) n c) cs) (k : Nat) (u : Value) : Own1 T (w.setCell ⟨g, k, none⟩ u) B (.slice (some ⟨g, 0, none⟩) n c) (cs.set k u) := by
  obtain ⟨h1, h2⟩ := h
  rcases h2 with ⟨hv, _⟩ | ⟨g', cap, cur, hv, hg, hh, hnc, hc, hsz, ht⟩
  · cases hv
  · have hgg : g' = g ∧ cap = c ∧ n = cs.length := by
      injection hv with a1 a2 a3
      injection a1 with a1
      injection a1 with a1
      exact ⟨a1.symm, a3.symm, a2⟩
    obtain ⟨rfl, rfl, rfl⟩ := hgg
    refine ⟨by simp, .inr ⟨g', cap, cur.setIfInBounds k u, by rw [List.length_set], hg, ?_, by rw [List.length_set]; exact hnc, hc, by simpa using hsz, ?_⟩⟩
    · simp [World.setCell, Array.getElem?_modify, hh]
    · simp only [Array.toList_setIfInBounds, List.length_set, List.take_set]
      rw [ht]
end
/-- A list of integers, by its value. -/
def IsI (w : World) (v : Value) (x : List Int) : Prop := ∃ A c, v = .slice A x.length c ∧ x.length ≤ c ∧ c ≤ maxLen ∧ Row w w.heap.size A (icells x)
def InI (w : World) (B T : Nat) (v : Value) (x : List Int) : Prop := T ≤ w.heap.size ∧ Own1 TN w B v (icells x) ∧ ∀ k, v.ownBlock = some k → k < T
section
variable {w w' : World} {B T : Nat} {v : Value} {x : List Int}
theorem IsI.below (h : IsI w v x) (hb : Below w.heap.size w w') : IsI w' v x := by
  obtain ⟨A, c, hv, h1, h2, h3⟩ := h
  exact ⟨A, c, hv, h1, h2, (h3.below hb (Nat.le_refl _)).more hb.size⟩
theorem InI.below (h : InI w B T v x) (hb : Below w.heap.size w w') : InI w' B T v x := ⟨Nat.le_trans h.1 hb.size, h.2.1.below hb, h.2.2⟩
theorem InI.same (h : InI w B T v x) (hz : w.heap.size ≤ w'.heap.size) (hk : ∀ k, B ≤ k → k < T → w'.heap[k]? = w.heap[k]?) : InI w' B T v x :=
  ⟨Nat.le_trans h.1 hz, h.2.1.same fun k e => hk k (h.2.1.ob k e).1 (h.2.2 k e), h.2.2⟩
theorem InI.is (h : InI w B T v x) : IsI w v x := by
  obtain ⟨A, c, hv, h1, h2, h3, _⟩ := h.2.1.form
  rw [icells_len] at hv h1
  exact ⟨A, c, hv, h1, h2, h3⟩
theorem Own1.inI (h : Own1 TN w B v (icells x)) : InI w B w.heap.size v x := ⟨Nat.le_refl _, h, fun k e => (h.ob k e).2⟩
theorem InI.up (h : InI w B T v x) : InI w B w.heap.size v x := h.2.1.inI
theorem InI.lower {B' : Nat} (h : InI w B T v x) (hB : B' ≤ B) : InI w B' T v x := ⟨h.1, h.2.1.less hB, h.2.2⟩
end
theorem in3_parts {x a b : Int} : in3 x a b = true ↔ a ≤ x ∧ x ≤ b := by simp [in3]
end Go.Proofs.Ytfaffpfjgipifaa
