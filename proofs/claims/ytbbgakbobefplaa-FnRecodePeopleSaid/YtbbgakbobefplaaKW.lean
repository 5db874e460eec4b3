/- What changes in a stretch of blocks alone. -/
import Derived.Test.YtbbgakbobefplaaK1
namespace Go.Proofs.Ytbbgakbobefplaa
open Go.RowKit
/-- What was there below B and from T on is as before. -/
def Within (w w' : World) (B T : Nat) : Prop := w'.os = w.os ∧ w'.tape = w.tape ∧ w'.output = w.output ∧ w.heap.size ≤ w'.heap.size ∧ ∀ k, k < w.heap.size → (k < B ∨ T ≤ k) → w'.heap[k]? = w.heap[k]?
theorem Within.refl (w : World) (B T : Nat) : Within w w B T := ⟨rfl, rfl, rfl, Nat.le_refl _, fun _ _ _ => rfl⟩
theorem Within.grown {w w1 w2 : World} {B T : Nat} {row : Option Nat} (h : Within w w1 B T) (hg : w1.grownBy w2 row) (hr : ∀ k, row = some k → B ≤ k ∧ k < T) : Within w w2 B T :=
  ⟨hg.os.trans h.1, hg.tape.trans h.2.1, hg.output.trans h.2.2.1, Nat.le_trans h.2.2.2.1 hg.size, fun k hk hb => (hg.block k (Nat.lt_of_lt_of_le hk h.2.2.2.1) (fun e => by have := hr k e.symm; omega)).trans (h.2.2.2.2 k hk hb)⟩
theorem below_within {W w w' : World} {B T : Nat} (hb : Below W.heap.size W w) (hw : Within w w' B T) (hB : W.heap.size ≤ B) : Below W.heap.size W w' :=
  ⟨hw.1.trans hb.os, hw.2.1.trans hb.tape, hw.2.2.1.trans hb.output, Nat.le_trans hb.size hw.2.2.2.1, fun k hk => (hw.2.2.2.2 k (Nat.lt_of_lt_of_le hk hb.size) (.inl (by omega))).trans (hb.block k hk)⟩
/-- A value is handed back, and nothing of W has turned. -/
def Back (v : Value) (W : World) (e : Ending) (w' : World) : Prop := e = .returned v ∧ Below W.heap.size W w'
end Go.Proofs.Ytbbgakbobefplaa
