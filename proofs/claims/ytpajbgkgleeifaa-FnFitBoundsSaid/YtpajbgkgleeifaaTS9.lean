/- Contracts of the model: TableFold. -/
import Derived.Test.YtpajbgkgleeifaaTS8
namespace Go.Proofs.Ytpajbgkgleeifaa
open Go.RowKit
theorem fold_no1 {t : Tb} {a b : Int} (h : tabOk t = false) : foldOk t a b = false := by simp [foldOk, h]
theorem fold_no2 {t : Tb} {a b : Int} (h : in3 b 0 (t.length - 1) = false) : foldOk t a b = false := by simp [foldOk, h]
theorem fold_no3 {t : Tb} {a b : Int} (h : in3 a 0 (b - 1) = false) : foldOk t a b = false := by simp [foldOk, h]
theorem foldI_no {t : Tb} {a b : Int} (h : foldOk t a b = false) : foldI t a b = [] := by rw [foldI, h]; rfl
theorem erase_two {α : Type} (l : List α) (b : Nat) : l.eraseIdx b = l.take b ++ l.drop (b + 1) := List.eraseIdx_eq_take_drop_succ l b
theorem Rws.wide {w : World} {B B' T T' : Nat} {no : Option Nat} {hs : List Value} {ll : List (List Int)} (h : Rws w B T no hs ll) (hB : B' ≤ B) (hT : T ≤ T') : Rws w B' T' no hs ll :=
  ⟨h.1, fun i hi => ⟨(h.2.1 i hi).1.less hB, fun k e => ⟨by have := ((h.2.1 i hi).2 k e).1; omega, ((h.2.1 i hi).2 k e).2⟩⟩, h.2.2⟩
end Go.Proofs.Ytpajbgkgleeifaa
