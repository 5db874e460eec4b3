/- The error value of chapter 21: what errors.Is says of it and of nil. -/
import Derived.Test.YtlingfbmphaphaaDoorA1
import Derived.LaidEql
import Derived.RowKitTokens
namespace Go.Proofs.YtlingfbmphaphaaDoor
open Go.RowKit Go.Extern
/-- The program's error value lies at a. -/
def ErrW (a : Addr) (w : World) : Prop := w.cell? ⟨0, 0, none⟩ = some (.iface 62 (.pointer (some a)))
theorem ErrW.lt {a : Addr} {w : World} (h : ErrW a w) : 0 < w.heap.size := World.block_lt_of_cell? _ _ h
theorem ErrW.below {a : Addr} {w w' : World} (h : ErrW a w) (hb : Below w.heap.size w w') : ErrW a w' := (hb.cell (p := ⟨0, 0, none⟩) h.lt).trans h
theorem is_typeOf (v : Value) (w : World) : (Extern.ReflectliteType.typeOf #[.iface 62 v]).run Tryd.prog w = .ok (.iface 52 (.agg #[.pointer (some ⟨1, 62, none⟩)])) w := by kernel_rfl
/-- What the model holds for the method Comparable: there is such a function, and it says true of the error's type. -/
theorem is_comparable : ∃ F, Extern.find Tryd.f58 = some F ∧ ∀ w : World, (F #[.agg #[.pointer (some ⟨1, 62, none⟩)]]).run Tryd.prog w = .ok (.bool true) w :=
  ⟨(Extern.ReflectliteType.method fun t => do Extern.Rtype.noPackHeld "Comparable" t; pure (.bool (← typeInfo t).comparable)), by kernel_rfl, fun w => by kernel_rfl⟩
theorem is_methodComparable (v : Value) (w : World) : (Go.method 200 52 v "Comparable").run Tryd.prog w = .ok (58, v) w := by kernel_rfl
theorem is_comp : (Tryd.prog.info? 62).map (·.comparable) = some true := by kernel_rfl
theorem is_size : (Tryd.prog.info? 88).map (·.size) = some 1 := by kernel_rfl
/-- errors.is of an error and itself. -/
theorem is2_same (a : Addr) (w : World) :
    Calls Tryd.prog 39 #[.iface 62 (.pointer (some a)), .iface 62 (.pointer (some a)), .bool true] w fun e w' => e = .returned (.bool true) ∧ w' = w := by
  obtain ⟨i, hi, hcmp⟩ := Option.map_eq_some_iff.1 is_comp
  obtain ⟨j, hj, _⟩ := Option.map_eq_some_iff.1 is_size
  have heq := run_eql_iface_ptr_same (P := Tryd.prog) w a Tryd.underlying35 Tryd.underlying62 hi hcmp hj
  go_enter Tryd.func39, Tryd.ntmps39
  go_wp2
  refine wp_loop_rounds 1 ?_
  rw [rounds_succ]
  go_wp2
  go_ret
  exact ⟨rfl, rfl⟩
/-- errors.Is of an error and itself. -/
theorem is_same (a : Addr) (w : World) :
    Calls Tryd.prog 33 #[.iface 62 (.pointer (some a)), .iface 62 (.pointer (some a))] w fun e w' => e = .returned (.bool true) ∧ w' = w := by
  have h8 := @run_callFunc_extern Tryd.prog 38 _ Extern.ReflectliteType.typeOf Tryd.func38 (by kernel_rfl) (by kernel_rfl) (by kernel_rfl) (by kernel_rfl)
  obtain ⟨F, hF, cT⟩ := is_comparable
  have h32 := @run_callFunc_extern Tryd.prog 58 _ F Tryd.func58 (by kernel_rfl) (by kernel_rfl) (by kernel_rfl) hF
  have tT := is_typeOf
  have mR := is_methodComparable
  go_enter Tryd.func33, Tryd.ntmps33
  go_wp2_with fail
  refine (is2_same a w).mono ?_
  rintro e w' ⟨rfl, rfl⟩
  go_wp2
  go_ret
  exact ⟨rfl, rfl⟩
/-- errors.Is of nil and an error. -/
theorem is_nil (b : Addr) (w : World) :
    Calls Tryd.prog 33 #[.nilIface, .iface 62 (.pointer (some b))] w fun e w' => e = .returned (.bool false) ∧ w' = w := by
  have hn := run_eql_iface_nil_left (P := Tryd.prog) w 62 (.pointer (some b)) Tryd.underlying35
  go_enter Tryd.func33, Tryd.ntmps33
  go_wp2
  go_ret
  exact ⟨rfl, rfl⟩
end Go.Proofs.YtlingfbmphaphaaDoor
