/- The error value, as the rows list it. -/
import Derived.Test.YtlingfbmphaphaaDoorVE
import Derived.Test.YtlingfbmphaphaaDoorRows
import Derived.Stop.LaidErr
import Derived.LaidMore
import Derived.WalkSmall
import Derived.Below
import Derived.RowKitTokens
import Derived.ProofKit
import Derived.OpenShut
namespace Go.Proofs.YtlingfbmphaphaaDoor
open Go.RowKit Go.ChangeShapes
/-- What the rows list. -/
def LAID : List (String × DataW Unit) := [("loop.example/disclosurecontrol/impl.errOutOfRange", Rows.laid_loop_example_disclosurecontrol_impl_errOutOfRange)]
theorem gErr : Tryd.prog.globalNamed "loop.example/disclosurecontrol/impl.errOutOfRange" = some 0 := by kernel_rfl
theorem tErr : (Tryd.prog.globals[0]?).map (·.type) = some 35 := by kernel_rfl
theorem starErr : "*" ++ "errors.errorString" = "*errors.errorString" := by decide
theorem rowErr (u : TypeId) (h : Tryd.prog.typeName? 3 u = some "*errors.errorString") : u = 62 :=
  typeName_ptr_named (nm := "errors.errorString") (by rw [starErr]; kernel_rfl) (by kernel_rfl) (by decide) u (by rw [starErr]; exact h)
theorem cellsErr : Tryd.prog.cellsOf 88 = 1 := by kernel_rfl
theorem cellsStr : Tryd.prog.cellsOf 9 = 1 := by kernel_rfl
theorem door_met (os : Os) (args : Array Value) : laidMetH Tryd.prog LAID ((World.doorLaid Tryd.prog 400 os).forCall (fun _ _ => 0) ⟨#[], args, []⟩).memory :=
  laidMetH_of_parts3 (fuel := 8) (laidMet_of_run' 8 (by kernel_rfl) (by kernel_rfl)) (by kernel_rfl) (by kernel_rfl)
theorem err_of_laid {W : World} (h : laidMetH Tryd.prog LAID W) : ∃ a, ErrW a W ∧ W.var? Tryd.prog "loop.example/disclosurecontrol/impl.errOutOfRange" = some #[.iface 62 (.pointer (some a))] := by
  unfold LAID at h
  rw [MakeChecks.laidMetH_plain _ _ _ (by kernel_rfl)] at h
  obtain ⟨a, s, hv, _, _, _⟩ := laid_sentinel h gErr tErr Tryd.underlying35 rowErr Tryd.underlying62 Tryd.underlying88 rfl rfl Tryd.underlying9 cellsErr cellsStr
  exact ⟨a, by simpa [ErrW] using World.var?_cell gErr hv 0, hv⟩
/-- The variable reads as the error's token, in each later world. -/
theorem err_read {H : Type} (enc : TypeId × Value → H) {W : World} {a : Addr} (h : W.var? Tryd.prog "loop.example/disclosurecontrol/impl.errOutOfRange" = some #[.iface 62 (.pointer (some a))]) (sp : Nat → Bool) :
    DataW.TrodVars enc Tryd.prog W sp ["loop.example/disclosurecontrol/impl.errOutOfRange"] [tok enc (.iface 62 (.pointer (some a)))] [.cell 0 0] :=
  vars_read1 enc gErr tErr Tryd.underlying35 h trivial sp
theorem err_below {W W' : World} {a : Addr} (hb : Below W.heap.size W W') (hE : ErrW a W) (h : W.var? Tryd.prog "loop.example/disclosurecontrol/impl.errOutOfRange" = some #[.iface 62 (.pointer (some a))]) :
    W'.var? Tryd.prog "loop.example/disclosurecontrol/impl.errOutOfRange" = some #[.iface 62 (.pointer (some a))] := var?_below hb gErr hE.lt h
end Go.Proofs.YtlingfbmphaphaaDoor
