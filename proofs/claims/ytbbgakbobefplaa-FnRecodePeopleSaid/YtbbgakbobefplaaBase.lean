/- Words for memory that all texts of this seat share. -/
import Derived.Test.YtbbgakbobefplaaK1
namespace Go.Proofs.Ytbbgakbobefplaa
open Go.RowKit

/-- A person: four numbers. -/
structure Pn where
  area : Int
  job : Int
  sex : Int
  pay : Int
deriving DecidableEq

def Pn.cells (p : Pn) : List Value := [.int .i64 p.area, .int .i64 p.job, .int .i64 p.sex, .int .i64 p.pay]
abbrev Pn.val (p : Pn) : Value := .agg #[.int .i64 p.area, .int .i64 p.job, .int .i64 p.sex, .int .i64 p.pay]
def pcells (l : List Pn) : List Value := l.flatMap Pn.cells

theorem pcells_length (l : List Pn) : (pcells l).length = l.length * 4 := by
  induction l with
  | nil => rfl
  | cons p l ih => simp only [pcells, List.flatMap_cons, List.length_append, Pn.cells, List.length_cons, List.length_nil] at *; omega

theorem pcells_get (l : List Pn) (k : Nat) (hk : k < l.length) (j : Nat) (hj : j < 4) : (pcells l)[k * 4 + j]? = (l[k].cells)[j]? := by
  induction l generalizing k with
  | nil => simp at hk
  | cons p l ih =>
    cases k with
    | zero => simp only [pcells, List.flatMap_cons, List.getElem_cons_zero]; rw [List.getElem?_append_left (by simp [Pn.cells]; omega)]; simp
    | succ k =>
      simp only [pcells, List.flatMap_cons, List.getElem_cons_succ]
      rw [List.getElem?_append_right (by simp [Pn.cells]; omega)]
      have e : (k + 1) * 4 + j - (Pn.cells p).length = k * 4 + j := by simp [Pn.cells]; omega
      rw [e]; exact ih k (by simpa using hk)

/-- The four cells of person k. -/
theorem Row.at_ {w : World} {B : Nat} {A : Option Addr} {l : List Pn} (h : Row w B A (pcells l)) (k : Nat) (hk : k < l.length) :
    ∃ b o, A = some ⟨b, o, none⟩ ∧ b < B ∧ w.cell? ⟨b, o + k * 4, none⟩ = some (.int .i64 l[k].area) ∧ w.cell? ⟨b, o + k * 4 + 1, none⟩ = some (.int .i64 l[k].job) ∧
      w.cell? ⟨b, o + k * 4 + 2, none⟩ = some (.int .i64 l[k].sex) ∧ w.cell? ⟨b, o + k * 4 + 3, none⟩ = some (.int .i64 l[k].pay) := by
  rcases h with h | ⟨b, o, hA, hb, hc⟩
  · have := pcells_length l; rw [h] at this; simp at this; omega
  · have g := fun j hj => pcells_get l k hk j hj
    refine ⟨b, o, hA, hb, ?_, ?_, ?_, ?_⟩
    · exact hc (k * 4 + 0) _ (by rw [g 0 (by omega)]; rfl)
    · rw [Nat.add_assoc]; exact hc (k * 4 + 1) _ (by rw [g 1 (by omega)]; rfl)
    · rw [Nat.add_assoc]; exact hc (k * 4 + 2) _ (by rw [g 2 (by omega)]; rfl)
    · rw [Nat.add_assoc]; exact hc (k * 4 + 3) _ (by rw [g 3 (by omega)]; rfl)
end Go.Proofs.Ytbbgakbobefplaa
