/- A region that draws its order, whose operations only read, and whose calls give plain values and leave what lay: one walk in the order of the text. -/
import Derived.BigQuiet
import Derived.Below
import Derived.StillTailTactics
namespace Go.Proofs.YtlingfbmphaphaaDoor
open Go.RowKit
/-- A world in which what lay in w lies as it lay. -/
structure Later (w : World) where
  y : World
  h : Below w.heap.size w y
instance laterNonempty (w : World) : Nonempty (Later w) := ⟨⟨w, Below.refl _ _⟩⟩
section
variable {P : Program}
theorem region_quiet_later {id : Nat} {Q : Exit → Act → World → Prop} {a : Act} {w : World} {l : List Oper} (hm : P.follows .mixedOrders = true) (hB : Region.lexB .any l.toArray = true)
    (h : wpQuiet P l.toArray (fun w' => ∃ L : Later w, w' = L.y) (fun a' => ∀ w', (∃ L : Later w, w' = L.y) → Q .normal a' w') l a) : (Code.region id l.toArray true).wp P Q a w :=
  wp_region_quiet (C := fun w' => ∃ L : Later w, w' = L.y) hm hB ⟨⟨w.drew, (Below.refl _ _).drew⟩, rfl⟩ (by simpa using h)
theorem Later.back {w : World} {f : FuncId} {args : Array Value} {v : Value} {Q : Ending → World → Prop} {X : World} (h : Calls P f args X Q) (hq : ∀ e w', Q e w' → e = .returned v ∧ Below w.heap.size w w') :
    Calls P f args X fun e w'' => e = .returned v ∧ ∃ M : Later w, w'' = M.y :=
  h.mono fun e w' hh => ⟨(hq e w' hh).1, ⟨w', (hq e w' hh).2⟩, rfl⟩
theorem Later.cell {w : World} {p : Addr} {v : Value} (hp : p.block < w.heap.size) (hc : w.cell? p = some v) (L : Later w) : L.y.cell? p = some v := (L.h.cell hp).trans hc
theorem Later.cell1 {w : World} {p : Addr} {v : Value} (hc : w.cell? p = some v) (L : Later w) : L.y.cell? p = some v := (L.h.cell (World.block_lt_of_cell? _ _ hc)).trans hc
end
end Go.Proofs.YtlingfbmphaphaaDoor
