/-
  NARROWER THAN 'FOR EVERY INPUT', by the rows' own cells (each row's printed sentence says how): FnDown: ifaces, laid · FnDownRises: ifaces, laid · FnNear: ifaces, laid · FnNearDown: ifaces, laid · FnDraw: ifaces, laid · FnLow: ifaces, laid · FnHigh: ifaces, laid · FnRange: ifaces, laid · FnRangeWidth: ifaces, laid · FnNearRises: ifaces, laid · FnDownAdd: ifaces, laid.
  DERIVED. THE GIVEN ROWS OF THIS SEAT. 11 by the template 'for every input the law returns true; each argument reads behind the call as it read before'; 0 by the template 'total and deterministic' (their statements: YtlingfbmphaphaaDoorTotals.lean).
  GIVEN WITH THE SEED: the statements are not yours to turn. If you find one false, say at which input.
  Laid BY PROGRAM, IN A SANDBOX (cutbox-rows.mjs): the forced cells as the released guide's own fill.sh prints them over the translation fde6909b5f9ea2a5… (all of the seat's roots in one cut). By AI agents, Wed Nov 11 2026. No macro, syntax, notation, axiom, sorry.
-/
import Derived.Test.YtlingfbmphaphaaDoorChecked
import GoSem.Claim
import GoSem.ClaimJoined
import GoSem.ClaimMapViews
import Derived.JoinedTies
import Derived.KernelRfl
namespace Go.Proofs.YtlingfbmphaphaaDoor
/- THE CELL 'sum', in the pinned program and in every row, IS THE sha256 OF THE DUMP (.gsa) THAT YtlingfbmphaphaaDoorProg.lean LOADS. Nothing in Lean hashes anything: it is a label: what it is worth is what the hold of that sum in a sandbox is worth. -/
noncomputable def Tryd.pinned : Pinned := { name := "ytlingfbmphaphaadoor", sum := "fde6909b5f9ea2a5a10fa7a73c9a2f393c2c2bb2e6bce88fd9150417b875fd57", checked := Tryd.checked }
namespace Rows
def none {H : Type} : Left H := { results := [], args := [] }

/- WHAT THE LISTED PACKAGE-LEVEL VARIABLES READ AS WHEN THE CALL BEGINS. Each datum BY PROGRAM (the guide's laid-datum.mjs) off the statement by which the dump's own 'gosem.cut.vars' lays the variable. In a bare row this is a premise. The card (YtlingfbmphaphaaDoorCards.lean) ties it to the program's text. -/
def laid_loop_example_disclosurecontrol_impl_errOutOfRange {H : Type} : DataW H := .iface "*errors.errorString" (.ptr (.agg [.lit (.string [97, 32, 110, 117, 109, 98, 101, 114, 32, 105, 115, 32, 111, 117, 116, 32, 111, 102, 32, 114, 97, 110, 103, 101])]))

/-- 'laws.FnDown': WHATEVER THE INPUT: true; the input reads as it did. -/
def fnDownSpec : ChangeSpec := { name := "fnDown", vars := ["loop.example/disclosurecontrol/impl.errOutOfRange"], fn := fun _ => fun
  | [d, g1] => { results := [.lit (.bool true)], args := [d], vars := [g1] }
  | _ => none }
def fnDownRow : OpenClaim := { program := "ytlingfbmphaphaadoor", sum := "fde6909b5f9ea2a5a10fa7a73c9a2f393c2c2bb2e6bce88fd9150417b875fd57", func := "loop.example/disclosurecontrol/laws.FnDown", spec := "fnDown", inPlace := ["internal/reflectlite.TypeOf"], unfollowed := true, recurses := true, named := ["loop.example/disclosurecontrol/impl.errOutOfRange"], ifaces := true, apart := false, laid := [("loop.example/disclosurecontrol/impl.errOutOfRange", laid_loop_example_disclosurecontrol_impl_errOutOfRange)] }
def FnDownSaid : Prop := fnDownRow.holds Tryd.pinned (OpenSpec.ofChange fnDownSpec)

/-- ITS FALSE NEIGHBOUR: 'it returns false'. Refute it at one input. -/
def fnDownWrong : ChangeSpec := { name := "fnDown", vars := ["loop.example/disclosurecontrol/impl.errOutOfRange"], fn := fun _ => fun
  | [d, g1] => { results := [.lit (.bool false)], args := [d], vars := [g1] }
  | _ => none }
def FnDownWrongFalsely : Prop := fnDownRow.holds Tryd.pinned (OpenSpec.ofChange fnDownWrong)

/-- 'laws.FnDownRises': WHATEVER THE INPUT: true; the input reads as it did. -/
def fnDownRisesSpec : ChangeSpec := { name := "fnDownRises", vars := ["loop.example/disclosurecontrol/impl.errOutOfRange"], fn := fun _ => fun
  | [d, g1] => { results := [.lit (.bool true)], args := [d], vars := [g1] }
  | _ => none }
def fnDownRisesRow : OpenClaim := { program := "ytlingfbmphaphaadoor", sum := "fde6909b5f9ea2a5a10fa7a73c9a2f393c2c2bb2e6bce88fd9150417b875fd57", func := "loop.example/disclosurecontrol/laws.FnDownRises", spec := "fnDownRises", inPlace := ["internal/reflectlite.TypeOf"], unfollowed := true, recurses := true, named := ["loop.example/disclosurecontrol/impl.errOutOfRange"], ifaces := true, apart := false, laid := [("loop.example/disclosurecontrol/impl.errOutOfRange", laid_loop_example_disclosurecontrol_impl_errOutOfRange)] }
def FnDownRisesSaid : Prop := fnDownRisesRow.holds Tryd.pinned (OpenSpec.ofChange fnDownRisesSpec)

/-- ITS FALSE NEIGHBOUR: 'it returns false'. Refute it at one input. -/
def fnDownRisesWrong : ChangeSpec := { name := "fnDownRises", vars := ["loop.example/disclosurecontrol/impl.errOutOfRange"], fn := fun _ => fun
  | [d, g1] => { results := [.lit (.bool false)], args := [d], vars := [g1] }
  | _ => none }
def FnDownRisesWrongFalsely : Prop := fnDownRisesRow.holds Tryd.pinned (OpenSpec.ofChange fnDownRisesWrong)

/-- 'laws.FnNear': WHATEVER THE INPUT: true; the input reads as it did. -/
def fnNearSpec : ChangeSpec := { name := "fnNear", vars := ["loop.example/disclosurecontrol/impl.errOutOfRange"], fn := fun _ => fun
  | [d, g1] => { results := [.lit (.bool true)], args := [d], vars := [g1] }
  | _ => none }
def fnNearRow : OpenClaim := { program := "ytlingfbmphaphaadoor", sum := "fde6909b5f9ea2a5a10fa7a73c9a2f393c2c2bb2e6bce88fd9150417b875fd57", func := "loop.example/disclosurecontrol/laws.FnNear", spec := "fnNear", inPlace := ["internal/reflectlite.TypeOf"], unfollowed := true, recurses := true, named := ["loop.example/disclosurecontrol/impl.errOutOfRange"], ifaces := true, apart := false, laid := [("loop.example/disclosurecontrol/impl.errOutOfRange", laid_loop_example_disclosurecontrol_impl_errOutOfRange)] }
def FnNearSaid : Prop := fnNearRow.holds Tryd.pinned (OpenSpec.ofChange fnNearSpec)

/-- ITS FALSE NEIGHBOUR: 'it returns false'. Refute it at one input. -/
def fnNearWrong : ChangeSpec := { name := "fnNear", vars := ["loop.example/disclosurecontrol/impl.errOutOfRange"], fn := fun _ => fun
  | [d, g1] => { results := [.lit (.bool false)], args := [d], vars := [g1] }
  | _ => none }
def FnNearWrongFalsely : Prop := fnNearRow.holds Tryd.pinned (OpenSpec.ofChange fnNearWrong)

/-- 'laws.FnNearDown': WHATEVER THE INPUT: true; the input reads as it did. -/
def fnNearDownSpec : ChangeSpec := { name := "fnNearDown", vars := ["loop.example/disclosurecontrol/impl.errOutOfRange"], fn := fun _ => fun
  | [d, g1] => { results := [.lit (.bool true)], args := [d], vars := [g1] }
  | _ => none }
def fnNearDownRow : OpenClaim := { program := "ytlingfbmphaphaadoor", sum := "fde6909b5f9ea2a5a10fa7a73c9a2f393c2c2bb2e6bce88fd9150417b875fd57", func := "loop.example/disclosurecontrol/laws.FnNearDown", spec := "fnNearDown", inPlace := ["internal/reflectlite.TypeOf"], unfollowed := true, recurses := true, named := ["loop.example/disclosurecontrol/impl.errOutOfRange"], ifaces := true, apart := false, laid := [("loop.example/disclosurecontrol/impl.errOutOfRange", laid_loop_example_disclosurecontrol_impl_errOutOfRange)] }
def FnNearDownSaid : Prop := fnNearDownRow.holds Tryd.pinned (OpenSpec.ofChange fnNearDownSpec)

/-- ITS FALSE NEIGHBOUR: 'it returns false'. Refute it at one input. -/
def fnNearDownWrong : ChangeSpec := { name := "fnNearDown", vars := ["loop.example/disclosurecontrol/impl.errOutOfRange"], fn := fun _ => fun
  | [d, g1] => { results := [.lit (.bool false)], args := [d], vars := [g1] }
  | _ => none }
def FnNearDownWrongFalsely : Prop := fnNearDownRow.holds Tryd.pinned (OpenSpec.ofChange fnNearDownWrong)

/-- 'laws.FnDraw': WHATEVER THE INPUT: true; the input reads as it did. -/
def fnDrawSpec : ChangeSpec := { name := "fnDraw", vars := ["loop.example/disclosurecontrol/impl.errOutOfRange"], fn := fun _ => fun
  | [d, g1] => { results := [.lit (.bool true)], args := [d], vars := [g1] }
  | _ => none }
def fnDrawRow : OpenClaim := { program := "ytlingfbmphaphaadoor", sum := "fde6909b5f9ea2a5a10fa7a73c9a2f393c2c2bb2e6bce88fd9150417b875fd57", func := "loop.example/disclosurecontrol/laws.FnDraw", spec := "fnDraw", inPlace := ["internal/reflectlite.TypeOf"], unfollowed := true, recurses := true, named := ["loop.example/disclosurecontrol/impl.errOutOfRange"], ifaces := true, apart := false, laid := [("loop.example/disclosurecontrol/impl.errOutOfRange", laid_loop_example_disclosurecontrol_impl_errOutOfRange)] }
def FnDrawSaid : Prop := fnDrawRow.holds Tryd.pinned (OpenSpec.ofChange fnDrawSpec)

/-- ITS FALSE NEIGHBOUR: 'it returns false'. Refute it at one input. -/
def fnDrawWrong : ChangeSpec := { name := "fnDraw", vars := ["loop.example/disclosurecontrol/impl.errOutOfRange"], fn := fun _ => fun
  | [d, g1] => { results := [.lit (.bool false)], args := [d], vars := [g1] }
  | _ => none }
def FnDrawWrongFalsely : Prop := fnDrawRow.holds Tryd.pinned (OpenSpec.ofChange fnDrawWrong)

/-- 'laws.FnLow': WHATEVER THE INPUT: true; the input reads as it did. -/
def fnLowSpec : ChangeSpec := { name := "fnLow", vars := ["loop.example/disclosurecontrol/impl.errOutOfRange"], fn := fun _ => fun
  | [d, g1] => { results := [.lit (.bool true)], args := [d], vars := [g1] }
  | _ => none }
def fnLowRow : OpenClaim := { program := "ytlingfbmphaphaadoor", sum := "fde6909b5f9ea2a5a10fa7a73c9a2f393c2c2bb2e6bce88fd9150417b875fd57", func := "loop.example/disclosurecontrol/laws.FnLow", spec := "fnLow", inPlace := ["internal/reflectlite.TypeOf"], unfollowed := true, recurses := true, named := ["loop.example/disclosurecontrol/impl.errOutOfRange"], ifaces := true, apart := false, laid := [("loop.example/disclosurecontrol/impl.errOutOfRange", laid_loop_example_disclosurecontrol_impl_errOutOfRange)] }
def FnLowSaid : Prop := fnLowRow.holds Tryd.pinned (OpenSpec.ofChange fnLowSpec)

/-- ITS FALSE NEIGHBOUR: 'it returns false'. Refute it at one input. -/
def fnLowWrong : ChangeSpec := { name := "fnLow", vars := ["loop.example/disclosurecontrol/impl.errOutOfRange"], fn := fun _ => fun
  | [d, g1] => { results := [.lit (.bool false)], args := [d], vars := [g1] }
  | _ => none }
def FnLowWrongFalsely : Prop := fnLowRow.holds Tryd.pinned (OpenSpec.ofChange fnLowWrong)

/-- 'laws.FnHigh': WHATEVER THE INPUT: true; the input reads as it did. -/
def fnHighSpec : ChangeSpec := { name := "fnHigh", vars := ["loop.example/disclosurecontrol/impl.errOutOfRange"], fn := fun _ => fun
  | [d, g1] => { results := [.lit (.bool true)], args := [d], vars := [g1] }
  | _ => none }
def fnHighRow : OpenClaim := { program := "ytlingfbmphaphaadoor", sum := "fde6909b5f9ea2a5a10fa7a73c9a2f393c2c2bb2e6bce88fd9150417b875fd57", func := "loop.example/disclosurecontrol/laws.FnHigh", spec := "fnHigh", inPlace := ["internal/reflectlite.TypeOf"], unfollowed := true, recurses := true, named := ["loop.example/disclosurecontrol/impl.errOutOfRange"], ifaces := true, apart := false, laid := [("loop.example/disclosurecontrol/impl.errOutOfRange", laid_loop_example_disclosurecontrol_impl_errOutOfRange)] }
def FnHighSaid : Prop := fnHighRow.holds Tryd.pinned (OpenSpec.ofChange fnHighSpec)

/-- ITS FALSE NEIGHBOUR: 'it returns false'. Refute it at one input. -/
def fnHighWrong : ChangeSpec := { name := "fnHigh", vars := ["loop.example/disclosurecontrol/impl.errOutOfRange"], fn := fun _ => fun
  | [d, g1] => { results := [.lit (.bool false)], args := [d], vars := [g1] }
  | _ => none }
def FnHighWrongFalsely : Prop := fnHighRow.holds Tryd.pinned (OpenSpec.ofChange fnHighWrong)

/-- 'laws.FnRange': WHATEVER THE INPUT: true; the input reads as it did. -/
def fnRangeSpec : ChangeSpec := { name := "fnRange", vars := ["loop.example/disclosurecontrol/impl.errOutOfRange"], fn := fun _ => fun
  | [d, g1] => { results := [.lit (.bool true)], args := [d], vars := [g1] }
  | _ => none }
def fnRangeRow : OpenClaim := { program := "ytlingfbmphaphaadoor", sum := "fde6909b5f9ea2a5a10fa7a73c9a2f393c2c2bb2e6bce88fd9150417b875fd57", func := "loop.example/disclosurecontrol/laws.FnRange", spec := "fnRange", inPlace := ["internal/reflectlite.TypeOf"], unfollowed := true, recurses := true, named := ["loop.example/disclosurecontrol/impl.errOutOfRange"], ifaces := true, apart := false, laid := [("loop.example/disclosurecontrol/impl.errOutOfRange", laid_loop_example_disclosurecontrol_impl_errOutOfRange)] }
def FnRangeSaid : Prop := fnRangeRow.holds Tryd.pinned (OpenSpec.ofChange fnRangeSpec)

/-- ITS FALSE NEIGHBOUR: 'it returns false'. Refute it at one input. -/
def fnRangeWrong : ChangeSpec := { name := "fnRange", vars := ["loop.example/disclosurecontrol/impl.errOutOfRange"], fn := fun _ => fun
  | [d, g1] => { results := [.lit (.bool false)], args := [d], vars := [g1] }
  | _ => none }
def FnRangeWrongFalsely : Prop := fnRangeRow.holds Tryd.pinned (OpenSpec.ofChange fnRangeWrong)

/-- 'laws.FnRangeWidth': WHATEVER THE INPUT: true; the input reads as it did. -/
def fnRangeWidthSpec : ChangeSpec := { name := "fnRangeWidth", vars := ["loop.example/disclosurecontrol/impl.errOutOfRange"], fn := fun _ => fun
  | [d, g1] => { results := [.lit (.bool true)], args := [d], vars := [g1] }
  | _ => none }
def fnRangeWidthRow : OpenClaim := { program := "ytlingfbmphaphaadoor", sum := "fde6909b5f9ea2a5a10fa7a73c9a2f393c2c2bb2e6bce88fd9150417b875fd57", func := "loop.example/disclosurecontrol/laws.FnRangeWidth", spec := "fnRangeWidth", inPlace := ["internal/reflectlite.TypeOf"], unfollowed := true, recurses := true, named := ["loop.example/disclosurecontrol/impl.errOutOfRange"], ifaces := true, apart := false, laid := [("loop.example/disclosurecontrol/impl.errOutOfRange", laid_loop_example_disclosurecontrol_impl_errOutOfRange)] }
def FnRangeWidthSaid : Prop := fnRangeWidthRow.holds Tryd.pinned (OpenSpec.ofChange fnRangeWidthSpec)

/-- ITS FALSE NEIGHBOUR: 'it returns false'. Refute it at one input. -/
def fnRangeWidthWrong : ChangeSpec := { name := "fnRangeWidth", vars := ["loop.example/disclosurecontrol/impl.errOutOfRange"], fn := fun _ => fun
  | [d, g1] => { results := [.lit (.bool false)], args := [d], vars := [g1] }
  | _ => none }
def FnRangeWidthWrongFalsely : Prop := fnRangeWidthRow.holds Tryd.pinned (OpenSpec.ofChange fnRangeWidthWrong)

/-- 'laws.FnNearRises': WHATEVER THE INPUT: true; the input reads as it did. -/
def fnNearRisesSpec : ChangeSpec := { name := "fnNearRises", vars := ["loop.example/disclosurecontrol/impl.errOutOfRange"], fn := fun _ => fun
  | [d, g1] => { results := [.lit (.bool true)], args := [d], vars := [g1] }
  | _ => none }
def fnNearRisesRow : OpenClaim := { program := "ytlingfbmphaphaadoor", sum := "fde6909b5f9ea2a5a10fa7a73c9a2f393c2c2bb2e6bce88fd9150417b875fd57", func := "loop.example/disclosurecontrol/laws.FnNearRises", spec := "fnNearRises", inPlace := ["internal/reflectlite.TypeOf"], unfollowed := true, recurses := true, named := ["loop.example/disclosurecontrol/impl.errOutOfRange"], ifaces := true, apart := false, laid := [("loop.example/disclosurecontrol/impl.errOutOfRange", laid_loop_example_disclosurecontrol_impl_errOutOfRange)] }
def FnNearRisesSaid : Prop := fnNearRisesRow.holds Tryd.pinned (OpenSpec.ofChange fnNearRisesSpec)

/-- ITS FALSE NEIGHBOUR: 'it returns false'. Refute it at one input. -/
def fnNearRisesWrong : ChangeSpec := { name := "fnNearRises", vars := ["loop.example/disclosurecontrol/impl.errOutOfRange"], fn := fun _ => fun
  | [d, g1] => { results := [.lit (.bool false)], args := [d], vars := [g1] }
  | _ => none }
def FnNearRisesWrongFalsely : Prop := fnNearRisesRow.holds Tryd.pinned (OpenSpec.ofChange fnNearRisesWrong)

/-- 'laws.FnDownAdd': WHATEVER THE INPUT: true; the input reads as it did. -/
def fnDownAddSpec : ChangeSpec := { name := "fnDownAdd", vars := ["loop.example/disclosurecontrol/impl.errOutOfRange"], fn := fun _ => fun
  | [d1, d2, g1] => { results := [.lit (.bool true)], args := [d1, d2], vars := [g1] }
  | _ => none }
def fnDownAddRow : OpenClaim := { program := "ytlingfbmphaphaadoor", sum := "fde6909b5f9ea2a5a10fa7a73c9a2f393c2c2bb2e6bce88fd9150417b875fd57", func := "loop.example/disclosurecontrol/laws.FnDownAdd", spec := "fnDownAdd", inPlace := ["internal/reflectlite.TypeOf"], unfollowed := true, recurses := true, named := ["loop.example/disclosurecontrol/impl.errOutOfRange"], ifaces := true, apart := false, laid := [("loop.example/disclosurecontrol/impl.errOutOfRange", laid_loop_example_disclosurecontrol_impl_errOutOfRange)] }
def FnDownAddSaid : Prop := fnDownAddRow.holds Tryd.pinned (OpenSpec.ofChange fnDownAddSpec)

/-- ITS FALSE NEIGHBOUR: 'it returns false'. Refute it at one input. -/
def fnDownAddWrong : ChangeSpec := { name := "fnDownAdd", vars := ["loop.example/disclosurecontrol/impl.errOutOfRange"], fn := fun _ => fun
  | [d1, d2, g1] => { results := [.lit (.bool false)], args := [d1, d2], vars := [g1] }
  | _ => none }
def FnDownAddWrongFalsely : Prop := fnDownAddRow.holds Tryd.pinned (OpenSpec.ofChange fnDownAddWrong)

/- THE SECOND FORM. 'bulk': how many values and letters a reading holds, each counted each time it is reached (what is shared counts as often as it is met; a slice's spare places count too). A statement '..UptoSaid' is the law's where the arguments, and the package variables that the reading takes, are together of bulk at most 1048576: NARROWER than '..Said'. Prove '..Said' where nothing that the law and all that it calls make is longer than what came in: it says more and counts as full. Else prove '..UptoSaid'. A law counts once. -/
mutual
def uptoBulk {H : Type} : DataW H → Nat
  | .lit (.string bytes) => bytes.length + 1
  | .lit _ => 1
  | .nil => 1
  | .ptr d => uptoBulk d + 1
  | .slice elems spare => uptoBulkAll elems + uptoBulkAll spare + 1
  | .agg parts => uptoBulkAll parts + 1
  | .iface _ d => uptoBulk d + 1
  | .map entries => uptoBulkEntries entries + 1
  | .held _ => 1
def uptoBulkAll {H : Type} : List (DataW H) → Nat
  | [] => 0
  | d :: r => uptoBulk d + uptoBulkAll r
def uptoBulkEntries {H : Type} : List (Lit × DataW H) → Nat
  | [] => 0
  | x :: r => uptoBulkEntry x + uptoBulkEntries r
def uptoBulkEntry {H : Type} : Lit × DataW H → Nat
  | (.string bytes, d) => bytes.length + uptoBulk d + 1
  | (_, d) => uptoBulk d + 1
 end
def uptoSmall : (H : Type) → List (DataW H) → Bool := fun _ ds => decide (uptoBulkAll ds ≤ 1048576)
def OpenSpec.upto (s : _root_.Go.ChangeSpec) : _root_.Go.OpenSpec := { _root_.Go.OpenSpec.ofChange s with cond := some uptoSmall }

/-- 'laws.FnDown', WHERE WHAT IT READS IS OF BULK AT MOST 1048576: true; the input reads as it did. -/
def fnDownUptoRow : OpenClaim := { program := "ytlingfbmphaphaadoor", sum := "fde6909b5f9ea2a5a10fa7a73c9a2f393c2c2bb2e6bce88fd9150417b875fd57", func := "loop.example/disclosurecontrol/laws.FnDown", spec := "fnDown", inPlace := ["internal/reflectlite.TypeOf"], unfollowed := true, recurses := true, named := ["loop.example/disclosurecontrol/impl.errOutOfRange"], ifaces := true, apart := false, laid := [("loop.example/disclosurecontrol/impl.errOutOfRange", laid_loop_example_disclosurecontrol_impl_errOutOfRange)], narrowed := true }
def FnDownUptoSaid : Prop := fnDownUptoRow.holds Tryd.pinned (OpenSpec.upto fnDownSpec)

/-- 'laws.FnDownRises', WHERE WHAT IT READS IS OF BULK AT MOST 1048576: true; the input reads as it did. -/
def fnDownRisesUptoRow : OpenClaim := { program := "ytlingfbmphaphaadoor", sum := "fde6909b5f9ea2a5a10fa7a73c9a2f393c2c2bb2e6bce88fd9150417b875fd57", func := "loop.example/disclosurecontrol/laws.FnDownRises", spec := "fnDownRises", inPlace := ["internal/reflectlite.TypeOf"], unfollowed := true, recurses := true, named := ["loop.example/disclosurecontrol/impl.errOutOfRange"], ifaces := true, apart := false, laid := [("loop.example/disclosurecontrol/impl.errOutOfRange", laid_loop_example_disclosurecontrol_impl_errOutOfRange)], narrowed := true }
def FnDownRisesUptoSaid : Prop := fnDownRisesUptoRow.holds Tryd.pinned (OpenSpec.upto fnDownRisesSpec)

/-- 'laws.FnNear', WHERE WHAT IT READS IS OF BULK AT MOST 1048576: true; the input reads as it did. -/
def fnNearUptoRow : OpenClaim := { program := "ytlingfbmphaphaadoor", sum := "fde6909b5f9ea2a5a10fa7a73c9a2f393c2c2bb2e6bce88fd9150417b875fd57", func := "loop.example/disclosurecontrol/laws.FnNear", spec := "fnNear", inPlace := ["internal/reflectlite.TypeOf"], unfollowed := true, recurses := true, named := ["loop.example/disclosurecontrol/impl.errOutOfRange"], ifaces := true, apart := false, laid := [("loop.example/disclosurecontrol/impl.errOutOfRange", laid_loop_example_disclosurecontrol_impl_errOutOfRange)], narrowed := true }
def FnNearUptoSaid : Prop := fnNearUptoRow.holds Tryd.pinned (OpenSpec.upto fnNearSpec)

/-- 'laws.FnNearDown', WHERE WHAT IT READS IS OF BULK AT MOST 1048576: true; the input reads as it did. -/
def fnNearDownUptoRow : OpenClaim := { program := "ytlingfbmphaphaadoor", sum := "fde6909b5f9ea2a5a10fa7a73c9a2f393c2c2bb2e6bce88fd9150417b875fd57", func := "loop.example/disclosurecontrol/laws.FnNearDown", spec := "fnNearDown", inPlace := ["internal/reflectlite.TypeOf"], unfollowed := true, recurses := true, named := ["loop.example/disclosurecontrol/impl.errOutOfRange"], ifaces := true, apart := false, laid := [("loop.example/disclosurecontrol/impl.errOutOfRange", laid_loop_example_disclosurecontrol_impl_errOutOfRange)], narrowed := true }
def FnNearDownUptoSaid : Prop := fnNearDownUptoRow.holds Tryd.pinned (OpenSpec.upto fnNearDownSpec)

/-- 'laws.FnDraw', WHERE WHAT IT READS IS OF BULK AT MOST 1048576: true; the input reads as it did. -/
def fnDrawUptoRow : OpenClaim := { program := "ytlingfbmphaphaadoor", sum := "fde6909b5f9ea2a5a10fa7a73c9a2f393c2c2bb2e6bce88fd9150417b875fd57", func := "loop.example/disclosurecontrol/laws.FnDraw", spec := "fnDraw", inPlace := ["internal/reflectlite.TypeOf"], unfollowed := true, recurses := true, named := ["loop.example/disclosurecontrol/impl.errOutOfRange"], ifaces := true, apart := false, laid := [("loop.example/disclosurecontrol/impl.errOutOfRange", laid_loop_example_disclosurecontrol_impl_errOutOfRange)], narrowed := true }
def FnDrawUptoSaid : Prop := fnDrawUptoRow.holds Tryd.pinned (OpenSpec.upto fnDrawSpec)

/-- 'laws.FnLow', WHERE WHAT IT READS IS OF BULK AT MOST 1048576: true; the input reads as it did. -/
def fnLowUptoRow : OpenClaim := { program := "ytlingfbmphaphaadoor", sum := "fde6909b5f9ea2a5a10fa7a73c9a2f393c2c2bb2e6bce88fd9150417b875fd57", func := "loop.example/disclosurecontrol/laws.FnLow", spec := "fnLow", inPlace := ["internal/reflectlite.TypeOf"], unfollowed := true, recurses := true, named := ["loop.example/disclosurecontrol/impl.errOutOfRange"], ifaces := true, apart := false, laid := [("loop.example/disclosurecontrol/impl.errOutOfRange", laid_loop_example_disclosurecontrol_impl_errOutOfRange)], narrowed := true }
def FnLowUptoSaid : Prop := fnLowUptoRow.holds Tryd.pinned (OpenSpec.upto fnLowSpec)

/-- 'laws.FnHigh', WHERE WHAT IT READS IS OF BULK AT MOST 1048576: true; the input reads as it did. -/
def fnHighUptoRow : OpenClaim := { program := "ytlingfbmphaphaadoor", sum := "fde6909b5f9ea2a5a10fa7a73c9a2f393c2c2bb2e6bce88fd9150417b875fd57", func := "loop.example/disclosurecontrol/laws.FnHigh", spec := "fnHigh", inPlace := ["internal/reflectlite.TypeOf"], unfollowed := true, recurses := true, named := ["loop.example/disclosurecontrol/impl.errOutOfRange"], ifaces := true, apart := false, laid := [("loop.example/disclosurecontrol/impl.errOutOfRange", laid_loop_example_disclosurecontrol_impl_errOutOfRange)], narrowed := true }
def FnHighUptoSaid : Prop := fnHighUptoRow.holds Tryd.pinned (OpenSpec.upto fnHighSpec)

/-- 'laws.FnRange', WHERE WHAT IT READS IS OF BULK AT MOST 1048576: true; the input reads as it did. -/
def fnRangeUptoRow : OpenClaim := { program := "ytlingfbmphaphaadoor", sum := "fde6909b5f9ea2a5a10fa7a73c9a2f393c2c2bb2e6bce88fd9150417b875fd57", func := "loop.example/disclosurecontrol/laws.FnRange", spec := "fnRange", inPlace := ["internal/reflectlite.TypeOf"], unfollowed := true, recurses := true, named := ["loop.example/disclosurecontrol/impl.errOutOfRange"], ifaces := true, apart := false, laid := [("loop.example/disclosurecontrol/impl.errOutOfRange", laid_loop_example_disclosurecontrol_impl_errOutOfRange)], narrowed := true }
def FnRangeUptoSaid : Prop := fnRangeUptoRow.holds Tryd.pinned (OpenSpec.upto fnRangeSpec)

/-- 'laws.FnRangeWidth', WHERE WHAT IT READS IS OF BULK AT MOST 1048576: true; the input reads as it did. -/
def fnRangeWidthUptoRow : OpenClaim := { program := "ytlingfbmphaphaadoor", sum := "fde6909b5f9ea2a5a10fa7a73c9a2f393c2c2bb2e6bce88fd9150417b875fd57", func := "loop.example/disclosurecontrol/laws.FnRangeWidth", spec := "fnRangeWidth", inPlace := ["internal/reflectlite.TypeOf"], unfollowed := true, recurses := true, named := ["loop.example/disclosurecontrol/impl.errOutOfRange"], ifaces := true, apart := false, laid := [("loop.example/disclosurecontrol/impl.errOutOfRange", laid_loop_example_disclosurecontrol_impl_errOutOfRange)], narrowed := true }
def FnRangeWidthUptoSaid : Prop := fnRangeWidthUptoRow.holds Tryd.pinned (OpenSpec.upto fnRangeWidthSpec)

/-- 'laws.FnNearRises', WHERE WHAT IT READS IS OF BULK AT MOST 1048576: true; the input reads as it did. -/
def fnNearRisesUptoRow : OpenClaim := { program := "ytlingfbmphaphaadoor", sum := "fde6909b5f9ea2a5a10fa7a73c9a2f393c2c2bb2e6bce88fd9150417b875fd57", func := "loop.example/disclosurecontrol/laws.FnNearRises", spec := "fnNearRises", inPlace := ["internal/reflectlite.TypeOf"], unfollowed := true, recurses := true, named := ["loop.example/disclosurecontrol/impl.errOutOfRange"], ifaces := true, apart := false, laid := [("loop.example/disclosurecontrol/impl.errOutOfRange", laid_loop_example_disclosurecontrol_impl_errOutOfRange)], narrowed := true }
def FnNearRisesUptoSaid : Prop := fnNearRisesUptoRow.holds Tryd.pinned (OpenSpec.upto fnNearRisesSpec)

/-- 'laws.FnDownAdd', WHERE WHAT IT READS IS OF BULK AT MOST 1048576: true; the input reads as it did. -/
def fnDownAddUptoRow : OpenClaim := { program := "ytlingfbmphaphaadoor", sum := "fde6909b5f9ea2a5a10fa7a73c9a2f393c2c2bb2e6bce88fd9150417b875fd57", func := "loop.example/disclosurecontrol/laws.FnDownAdd", spec := "fnDownAdd", inPlace := ["internal/reflectlite.TypeOf"], unfollowed := true, recurses := true, named := ["loop.example/disclosurecontrol/impl.errOutOfRange"], ifaces := true, apart := false, laid := [("loop.example/disclosurecontrol/impl.errOutOfRange", laid_loop_example_disclosurecontrol_impl_errOutOfRange)], narrowed := true }
def FnDownAddUptoSaid : Prop := fnDownAddUptoRow.holds Tryd.pinned (OpenSpec.upto fnDownAddSpec)

end Rows
end Go.Proofs.YtlingfbmphaphaaDoor
