/-
  NARROWER THAN 'FOR EVERY INPUT', by the rows' own cells (each row's printed sentence says how): FnDrawMean: ifaces, laid · FnDrawCount: ifaces, laid · FnRangeMultiple: ifaces, laid · FnDownTwice: ifaces, laid · FnNearDraw: ifaces, laid · FnExactRoundDown: ifaces, laid · FnExactRoundNear: ifaces, laid · FnExactRoundDraw: ifaces, laid · FnExactRoundLow: ifaces, laid · FnExactRoundHigh: ifaces, laid.
  DERIVED. THE GIVEN ROWS OF THIS SEAT. 10 by the template 'for every input the law returns true; each argument reads behind the call as it read before'; 0 by the template 'total and deterministic' (their statements: YtlpfmciahhkncaaDoorTotals.lean).
  GIVEN WITH THE SEED: the statements are not yours to turn. If you find one false, say at which input.
  Laid BY PROGRAM, IN A SANDBOX (cutbox-rows.mjs): the forced cells as the released guide's own fill.sh prints them over the translation e808a7aa696557ba… (all of the seat's roots in one cut). By AI agents, Wed Nov 11 2026. No macro, syntax, notation, axiom, sorry.
-/
import Derived.Test.YtlpfmciahhkncaaDoorChecked
import GoSem.Claim
import GoSem.ClaimJoined
import GoSem.ClaimMapViews
import Derived.JoinedTies
import Derived.KernelRfl
namespace Go.Proofs.YtlpfmciahhkncaaDoor
/- THE CELL 'sum', in the pinned program and in every row, IS THE sha256 OF THE DUMP (.gsa) THAT YtlpfmciahhkncaaDoorProg.lean LOADS. Nothing in Lean hashes anything: it is a label: what it is worth is what the hold of that sum in a sandbox is worth. -/
noncomputable def Tryd.pinned : Pinned := { name := "ytlpfmciahhkncaadoor", sum := "e808a7aa696557ba9df485d4b9b1db9e485f33a63bfa6eb97bf2f8409751e364", checked := Tryd.checked }
namespace Rows
def none {H : Type} : Left H := { results := [], args := [] }

/- WHAT THE LISTED PACKAGE-LEVEL VARIABLES READ AS WHEN THE CALL BEGINS. Each datum BY PROGRAM (the guide's laid-datum.mjs) off the statement by which the dump's own 'gosem.cut.vars' lays the variable. In a bare row this is a premise. The card (YtlpfmciahhkncaaDoorCards.lean) ties it to the program's text. -/
def laid_loop_example_disclosurecontrol_impl_errOutOfRange {H : Type} : DataW H := .iface "*errors.errorString" (.ptr (.agg [.lit (.string [97, 32, 110, 117, 109, 98, 101, 114, 32, 105, 115, 32, 111, 117, 116, 32, 111, 102, 32, 114, 97, 110, 103, 101])]))

/-- 'laws.FnDrawMean': WHATEVER THE INPUT: true; the input reads as it did. -/
def fnDrawMeanSpec : ChangeSpec := { name := "fnDrawMean", vars := ["loop.example/disclosurecontrol/impl.errOutOfRange"], fn := fun _ => fun
  | [d, g1] => { results := [.lit (.bool true)], args := [d], vars := [g1] }
  | _ => none }
def fnDrawMeanRow : OpenClaim := { program := "ytlpfmciahhkncaadoor", sum := "e808a7aa696557ba9df485d4b9b1db9e485f33a63bfa6eb97bf2f8409751e364", func := "loop.example/disclosurecontrol/laws.FnDrawMean", spec := "fnDrawMean", inPlace := ["internal/reflectlite.TypeOf"], unfollowed := true, recurses := true, named := ["loop.example/disclosurecontrol/impl.errOutOfRange"], ifaces := true, apart := false, laid := [("loop.example/disclosurecontrol/impl.errOutOfRange", laid_loop_example_disclosurecontrol_impl_errOutOfRange)] }
def FnDrawMeanSaid : Prop := fnDrawMeanRow.holds Tryd.pinned (OpenSpec.ofChange fnDrawMeanSpec)

/-- ITS FALSE NEIGHBOUR: 'it returns false'. Refute it at one input. -/
def fnDrawMeanWrong : ChangeSpec := { name := "fnDrawMean", vars := ["loop.example/disclosurecontrol/impl.errOutOfRange"], fn := fun _ => fun
  | [d, g1] => { results := [.lit (.bool false)], args := [d], vars := [g1] }
  | _ => none }
def FnDrawMeanWrongFalsely : Prop := fnDrawMeanRow.holds Tryd.pinned (OpenSpec.ofChange fnDrawMeanWrong)

/-- 'laws.FnDrawCount': WHATEVER THE INPUT: true; the input reads as it did. -/
def fnDrawCountSpec : ChangeSpec := { name := "fnDrawCount", vars := ["loop.example/disclosurecontrol/impl.errOutOfRange"], fn := fun _ => fun
  | [d, g1] => { results := [.lit (.bool true)], args := [d], vars := [g1] }
  | _ => none }
def fnDrawCountRow : OpenClaim := { program := "ytlpfmciahhkncaadoor", sum := "e808a7aa696557ba9df485d4b9b1db9e485f33a63bfa6eb97bf2f8409751e364", func := "loop.example/disclosurecontrol/laws.FnDrawCount", spec := "fnDrawCount", inPlace := ["internal/reflectlite.TypeOf"], unfollowed := true, recurses := true, named := ["loop.example/disclosurecontrol/impl.errOutOfRange"], ifaces := true, apart := false, laid := [("loop.example/disclosurecontrol/impl.errOutOfRange", laid_loop_example_disclosurecontrol_impl_errOutOfRange)] }
def FnDrawCountSaid : Prop := fnDrawCountRow.holds Tryd.pinned (OpenSpec.ofChange fnDrawCountSpec)

/-- ITS FALSE NEIGHBOUR: 'it returns false'. Refute it at one input. -/
def fnDrawCountWrong : ChangeSpec := { name := "fnDrawCount", vars := ["loop.example/disclosurecontrol/impl.errOutOfRange"], fn := fun _ => fun
  | [d, g1] => { results := [.lit (.bool false)], args := [d], vars := [g1] }
  | _ => none }
def FnDrawCountWrongFalsely : Prop := fnDrawCountRow.holds Tryd.pinned (OpenSpec.ofChange fnDrawCountWrong)

/-- 'laws.FnRangeMultiple': WHATEVER THE INPUT: true; the input reads as it did. -/
def fnRangeMultipleSpec : ChangeSpec := { name := "fnRangeMultiple", vars := ["loop.example/disclosurecontrol/impl.errOutOfRange"], fn := fun _ => fun
  | [d1, d2, g1] => { results := [.lit (.bool true)], args := [d1, d2], vars := [g1] }
  | _ => none }
def fnRangeMultipleRow : OpenClaim := { program := "ytlpfmciahhkncaadoor", sum := "e808a7aa696557ba9df485d4b9b1db9e485f33a63bfa6eb97bf2f8409751e364", func := "loop.example/disclosurecontrol/laws.FnRangeMultiple", spec := "fnRangeMultiple", inPlace := ["internal/reflectlite.TypeOf"], unfollowed := true, recurses := true, named := ["loop.example/disclosurecontrol/impl.errOutOfRange"], ifaces := true, apart := false, laid := [("loop.example/disclosurecontrol/impl.errOutOfRange", laid_loop_example_disclosurecontrol_impl_errOutOfRange)] }
def FnRangeMultipleSaid : Prop := fnRangeMultipleRow.holds Tryd.pinned (OpenSpec.ofChange fnRangeMultipleSpec)

/-- ITS FALSE NEIGHBOUR: 'it returns false'. Refute it at one input. -/
def fnRangeMultipleWrong : ChangeSpec := { name := "fnRangeMultiple", vars := ["loop.example/disclosurecontrol/impl.errOutOfRange"], fn := fun _ => fun
  | [d1, d2, g1] => { results := [.lit (.bool false)], args := [d1, d2], vars := [g1] }
  | _ => none }
def FnRangeMultipleWrongFalsely : Prop := fnRangeMultipleRow.holds Tryd.pinned (OpenSpec.ofChange fnRangeMultipleWrong)

/-- 'laws.FnDownTwice': WHATEVER THE INPUT: true; the input reads as it did. -/
def fnDownTwiceSpec : ChangeSpec := { name := "fnDownTwice", vars := ["loop.example/disclosurecontrol/impl.errOutOfRange"], fn := fun _ => fun
  | [d, g1] => { results := [.lit (.bool true)], args := [d], vars := [g1] }
  | _ => none }
def fnDownTwiceRow : OpenClaim := { program := "ytlpfmciahhkncaadoor", sum := "e808a7aa696557ba9df485d4b9b1db9e485f33a63bfa6eb97bf2f8409751e364", func := "loop.example/disclosurecontrol/laws.FnDownTwice", spec := "fnDownTwice", inPlace := ["internal/reflectlite.TypeOf"], unfollowed := true, recurses := true, named := ["loop.example/disclosurecontrol/impl.errOutOfRange"], ifaces := true, apart := false, laid := [("loop.example/disclosurecontrol/impl.errOutOfRange", laid_loop_example_disclosurecontrol_impl_errOutOfRange)] }
def FnDownTwiceSaid : Prop := fnDownTwiceRow.holds Tryd.pinned (OpenSpec.ofChange fnDownTwiceSpec)

/-- ITS FALSE NEIGHBOUR: 'it returns false'. Refute it at one input. -/
def fnDownTwiceWrong : ChangeSpec := { name := "fnDownTwice", vars := ["loop.example/disclosurecontrol/impl.errOutOfRange"], fn := fun _ => fun
  | [d, g1] => { results := [.lit (.bool false)], args := [d], vars := [g1] }
  | _ => none }
def FnDownTwiceWrongFalsely : Prop := fnDownTwiceRow.holds Tryd.pinned (OpenSpec.ofChange fnDownTwiceWrong)

/-- 'laws.FnNearDraw': WHATEVER THE INPUT: true; the input reads as it did. -/
def fnNearDrawSpec : ChangeSpec := { name := "fnNearDraw", vars := ["loop.example/disclosurecontrol/impl.errOutOfRange"], fn := fun _ => fun
  | [d, g1] => { results := [.lit (.bool true)], args := [d], vars := [g1] }
  | _ => none }
def fnNearDrawRow : OpenClaim := { program := "ytlpfmciahhkncaadoor", sum := "e808a7aa696557ba9df485d4b9b1db9e485f33a63bfa6eb97bf2f8409751e364", func := "loop.example/disclosurecontrol/laws.FnNearDraw", spec := "fnNearDraw", inPlace := ["internal/reflectlite.TypeOf"], unfollowed := true, recurses := true, named := ["loop.example/disclosurecontrol/impl.errOutOfRange"], ifaces := true, apart := false, laid := [("loop.example/disclosurecontrol/impl.errOutOfRange", laid_loop_example_disclosurecontrol_impl_errOutOfRange)] }
def FnNearDrawSaid : Prop := fnNearDrawRow.holds Tryd.pinned (OpenSpec.ofChange fnNearDrawSpec)

/-- ITS FALSE NEIGHBOUR: 'it returns false'. Refute it at one input. -/
def fnNearDrawWrong : ChangeSpec := { name := "fnNearDraw", vars := ["loop.example/disclosurecontrol/impl.errOutOfRange"], fn := fun _ => fun
  | [d, g1] => { results := [.lit (.bool false)], args := [d], vars := [g1] }
  | _ => none }
def FnNearDrawWrongFalsely : Prop := fnNearDrawRow.holds Tryd.pinned (OpenSpec.ofChange fnNearDrawWrong)

/-- 'laws.FnExactRoundDown': WHATEVER THE INPUT: true; the input reads as it did. -/
def fnExactRoundDownSpec : ChangeSpec := { name := "fnExactRoundDown", vars := ["loop.example/disclosurecontrol/impl.errOutOfRange"], fn := fun _ => fun
  | [d1, d2, g1] => { results := [.lit (.bool true)], args := [d1, d2], vars := [g1] }
  | _ => none }
def fnExactRoundDownRow : OpenClaim := { program := "ytlpfmciahhkncaadoor", sum := "e808a7aa696557ba9df485d4b9b1db9e485f33a63bfa6eb97bf2f8409751e364", func := "loop.example/disclosurecontrol/laws.FnExactRoundDown", spec := "fnExactRoundDown", inPlace := ["internal/reflectlite.TypeOf"], unfollowed := true, recurses := true, named := ["loop.example/disclosurecontrol/impl.errOutOfRange"], ifaces := true, apart := false, laid := [("loop.example/disclosurecontrol/impl.errOutOfRange", laid_loop_example_disclosurecontrol_impl_errOutOfRange)] }
def FnExactRoundDownSaid : Prop := fnExactRoundDownRow.holds Tryd.pinned (OpenSpec.ofChange fnExactRoundDownSpec)

/-- ITS FALSE NEIGHBOUR: 'it returns false'. Refute it at one input. -/
def fnExactRoundDownWrong : ChangeSpec := { name := "fnExactRoundDown", vars := ["loop.example/disclosurecontrol/impl.errOutOfRange"], fn := fun _ => fun
  | [d1, d2, g1] => { results := [.lit (.bool false)], args := [d1, d2], vars := [g1] }
  | _ => none }
def FnExactRoundDownWrongFalsely : Prop := fnExactRoundDownRow.holds Tryd.pinned (OpenSpec.ofChange fnExactRoundDownWrong)

/-- 'laws.FnExactRoundNear': WHATEVER THE INPUT: true; the input reads as it did. -/
def fnExactRoundNearSpec : ChangeSpec := { name := "fnExactRoundNear", vars := ["loop.example/disclosurecontrol/impl.errOutOfRange"], fn := fun _ => fun
  | [d1, d2, g1] => { results := [.lit (.bool true)], args := [d1, d2], vars := [g1] }
  | _ => none }
def fnExactRoundNearRow : OpenClaim := { program := "ytlpfmciahhkncaadoor", sum := "e808a7aa696557ba9df485d4b9b1db9e485f33a63bfa6eb97bf2f8409751e364", func := "loop.example/disclosurecontrol/laws.FnExactRoundNear", spec := "fnExactRoundNear", inPlace := ["internal/reflectlite.TypeOf"], unfollowed := true, recurses := true, named := ["loop.example/disclosurecontrol/impl.errOutOfRange"], ifaces := true, apart := false, laid := [("loop.example/disclosurecontrol/impl.errOutOfRange", laid_loop_example_disclosurecontrol_impl_errOutOfRange)] }
def FnExactRoundNearSaid : Prop := fnExactRoundNearRow.holds Tryd.pinned (OpenSpec.ofChange fnExactRoundNearSpec)

/-- ITS FALSE NEIGHBOUR: 'it returns false'. Refute it at one input. -/
def fnExactRoundNearWrong : ChangeSpec := { name := "fnExactRoundNear", vars := ["loop.example/disclosurecontrol/impl.errOutOfRange"], fn := fun _ => fun
  | [d1, d2, g1] => { results := [.lit (.bool false)], args := [d1, d2], vars := [g1] }
  | _ => none }
def FnExactRoundNearWrongFalsely : Prop := fnExactRoundNearRow.holds Tryd.pinned (OpenSpec.ofChange fnExactRoundNearWrong)

/-- 'laws.FnExactRoundDraw': WHATEVER THE INPUT: true; the input reads as it did. -/
def fnExactRoundDrawSpec : ChangeSpec := { name := "fnExactRoundDraw", vars := ["loop.example/disclosurecontrol/impl.errOutOfRange"], fn := fun _ => fun
  | [d1, d2, d3, g1] => { results := [.lit (.bool true)], args := [d1, d2, d3], vars := [g1] }
  | _ => none }
def fnExactRoundDrawRow : OpenClaim := { program := "ytlpfmciahhkncaadoor", sum := "e808a7aa696557ba9df485d4b9b1db9e485f33a63bfa6eb97bf2f8409751e364", func := "loop.example/disclosurecontrol/laws.FnExactRoundDraw", spec := "fnExactRoundDraw", inPlace := ["internal/reflectlite.TypeOf"], unfollowed := true, recurses := true, named := ["loop.example/disclosurecontrol/impl.errOutOfRange"], ifaces := true, apart := false, laid := [("loop.example/disclosurecontrol/impl.errOutOfRange", laid_loop_example_disclosurecontrol_impl_errOutOfRange)] }
def FnExactRoundDrawSaid : Prop := fnExactRoundDrawRow.holds Tryd.pinned (OpenSpec.ofChange fnExactRoundDrawSpec)

/-- ITS FALSE NEIGHBOUR: 'it returns false'. Refute it at one input. -/
def fnExactRoundDrawWrong : ChangeSpec := { name := "fnExactRoundDraw", vars := ["loop.example/disclosurecontrol/impl.errOutOfRange"], fn := fun _ => fun
  | [d1, d2, d3, g1] => { results := [.lit (.bool false)], args := [d1, d2, d3], vars := [g1] }
  | _ => none }
def FnExactRoundDrawWrongFalsely : Prop := fnExactRoundDrawRow.holds Tryd.pinned (OpenSpec.ofChange fnExactRoundDrawWrong)

/-- 'laws.FnExactRoundLow': WHATEVER THE INPUT: true; the input reads as it did. -/
def fnExactRoundLowSpec : ChangeSpec := { name := "fnExactRoundLow", vars := ["loop.example/disclosurecontrol/impl.errOutOfRange"], fn := fun _ => fun
  | [d1, d2, g1] => { results := [.lit (.bool true)], args := [d1, d2], vars := [g1] }
  | _ => none }
def fnExactRoundLowRow : OpenClaim := { program := "ytlpfmciahhkncaadoor", sum := "e808a7aa696557ba9df485d4b9b1db9e485f33a63bfa6eb97bf2f8409751e364", func := "loop.example/disclosurecontrol/laws.FnExactRoundLow", spec := "fnExactRoundLow", inPlace := ["internal/reflectlite.TypeOf"], unfollowed := true, recurses := true, named := ["loop.example/disclosurecontrol/impl.errOutOfRange"], ifaces := true, apart := false, laid := [("loop.example/disclosurecontrol/impl.errOutOfRange", laid_loop_example_disclosurecontrol_impl_errOutOfRange)] }
def FnExactRoundLowSaid : Prop := fnExactRoundLowRow.holds Tryd.pinned (OpenSpec.ofChange fnExactRoundLowSpec)

/-- ITS FALSE NEIGHBOUR: 'it returns false'. Refute it at one input. -/
def fnExactRoundLowWrong : ChangeSpec := { name := "fnExactRoundLow", vars := ["loop.example/disclosurecontrol/impl.errOutOfRange"], fn := fun _ => fun
  | [d1, d2, g1] => { results := [.lit (.bool false)], args := [d1, d2], vars := [g1] }
  | _ => none }
def FnExactRoundLowWrongFalsely : Prop := fnExactRoundLowRow.holds Tryd.pinned (OpenSpec.ofChange fnExactRoundLowWrong)

/-- 'laws.FnExactRoundHigh': WHATEVER THE INPUT: true; the input reads as it did. -/
def fnExactRoundHighSpec : ChangeSpec := { name := "fnExactRoundHigh", vars := ["loop.example/disclosurecontrol/impl.errOutOfRange"], fn := fun _ => fun
  | [d1, d2, g1] => { results := [.lit (.bool true)], args := [d1, d2], vars := [g1] }
  | _ => none }
def fnExactRoundHighRow : OpenClaim := { program := "ytlpfmciahhkncaadoor", sum := "e808a7aa696557ba9df485d4b9b1db9e485f33a63bfa6eb97bf2f8409751e364", func := "loop.example/disclosurecontrol/laws.FnExactRoundHigh", spec := "fnExactRoundHigh", inPlace := ["internal/reflectlite.TypeOf"], unfollowed := true, recurses := true, named := ["loop.example/disclosurecontrol/impl.errOutOfRange"], ifaces := true, apart := false, laid := [("loop.example/disclosurecontrol/impl.errOutOfRange", laid_loop_example_disclosurecontrol_impl_errOutOfRange)] }
def FnExactRoundHighSaid : Prop := fnExactRoundHighRow.holds Tryd.pinned (OpenSpec.ofChange fnExactRoundHighSpec)

/-- ITS FALSE NEIGHBOUR: 'it returns false'. Refute it at one input. -/
def fnExactRoundHighWrong : ChangeSpec := { name := "fnExactRoundHigh", vars := ["loop.example/disclosurecontrol/impl.errOutOfRange"], fn := fun _ => fun
  | [d1, d2, g1] => { results := [.lit (.bool false)], args := [d1, d2], vars := [g1] }
  | _ => none }
def FnExactRoundHighWrongFalsely : Prop := fnExactRoundHighRow.holds Tryd.pinned (OpenSpec.ofChange fnExactRoundHighWrong)

/- THE SECOND FORM. 'bulk': how many values and letters a reading holds, each counted each time it is reached (what is shared counts as often as it is met; a slice's spare places count too). A statement '..UptoSaid' is the law's where the arguments, and the package variables that the reading takes, are together of bulk at most 1048576: NARROWER than '..Said'. Prove '..Said' where nothing that the law and all that it calls make is longer than what came in: it says more and counts as full. Else prove '..UptoSaid'. A law counts once. -/
mutual
def uptoBulk {H : Type} : DataW H → Nat
  | .lit (.string bytes) => bytes.length + 1
  | .lit _ => 1
  | .nil => 1
  | .ptr d => uptoBulk d + 1
  | .slice elems spare => uptoBulkAll elems + uptoBulkAll spare + 1
  | .agg parts => uptoBulkAll parts + 1
  | .iface _ d => uptoBulk d + 1
  | .map entries => uptoBulkEntries entries + 1
  | .held _ => 1
def uptoBulkAll {H : Type} : List (DataW H) → Nat
  | [] => 0
  | d :: r => uptoBulk d + uptoBulkAll r
def uptoBulkEntries {H : Type} : List (Lit × DataW H) → Nat
  | [] => 0
  | x :: r => uptoBulkEntry x + uptoBulkEntries r
def uptoBulkEntry {H : Type} : Lit × DataW H → Nat
  | (.string bytes, d) => bytes.length + uptoBulk d + 1
  | (_, d) => uptoBulk d + 1
 end
def uptoSmall : (H : Type) → List (DataW H) → Bool := fun _ ds => decide (uptoBulkAll ds ≤ 1048576)
def OpenSpec.upto (s : _root_.Go.ChangeSpec) : _root_.Go.OpenSpec := { _root_.Go.OpenSpec.ofChange s with cond := some uptoSmall }

/-- 'laws.FnDrawMean', WHERE WHAT IT READS IS OF BULK AT MOST 1048576: true; the input reads as it did. -/
def fnDrawMeanUptoRow : OpenClaim := { program := "ytlpfmciahhkncaadoor", sum := "e808a7aa696557ba9df485d4b9b1db9e485f33a63bfa6eb97bf2f8409751e364", func := "loop.example/disclosurecontrol/laws.FnDrawMean", spec := "fnDrawMean", inPlace := ["internal/reflectlite.TypeOf"], unfollowed := true, recurses := true, named := ["loop.example/disclosurecontrol/impl.errOutOfRange"], ifaces := true, apart := false, laid := [("loop.example/disclosurecontrol/impl.errOutOfRange", laid_loop_example_disclosurecontrol_impl_errOutOfRange)], narrowed := true }
def FnDrawMeanUptoSaid : Prop := fnDrawMeanUptoRow.holds Tryd.pinned (OpenSpec.upto fnDrawMeanSpec)

/-- 'laws.FnDrawCount', WHERE WHAT IT READS IS OF BULK AT MOST 1048576: true; the input reads as it did. -/
def fnDrawCountUptoRow : OpenClaim := { program := "ytlpfmciahhkncaadoor", sum := "e808a7aa696557ba9df485d4b9b1db9e485f33a63bfa6eb97bf2f8409751e364", func := "loop.example/disclosurecontrol/laws.FnDrawCount", spec := "fnDrawCount", inPlace := ["internal/reflectlite.TypeOf"], unfollowed := true, recurses := true, named := ["loop.example/disclosurecontrol/impl.errOutOfRange"], ifaces := true, apart := false, laid := [("loop.example/disclosurecontrol/impl.errOutOfRange", laid_loop_example_disclosurecontrol_impl_errOutOfRange)], narrowed := true }
def FnDrawCountUptoSaid : Prop := fnDrawCountUptoRow.holds Tryd.pinned (OpenSpec.upto fnDrawCountSpec)

/-- 'laws.FnRangeMultiple', WHERE WHAT IT READS IS OF BULK AT MOST 1048576: true; the input reads as it did. -/
def fnRangeMultipleUptoRow : OpenClaim := { program := "ytlpfmciahhkncaadoor", sum := "e808a7aa696557ba9df485d4b9b1db9e485f33a63bfa6eb97bf2f8409751e364", func := "loop.example/disclosurecontrol/laws.FnRangeMultiple", spec := "fnRangeMultiple", inPlace := ["internal/reflectlite.TypeOf"], unfollowed := true, recurses := true, named := ["loop.example/disclosurecontrol/impl.errOutOfRange"], ifaces := true, apart := false, laid := [("loop.example/disclosurecontrol/impl.errOutOfRange", laid_loop_example_disclosurecontrol_impl_errOutOfRange)], narrowed := true }
def FnRangeMultipleUptoSaid : Prop := fnRangeMultipleUptoRow.holds Tryd.pinned (OpenSpec.upto fnRangeMultipleSpec)

/-- 'laws.FnDownTwice', WHERE WHAT IT READS IS OF BULK AT MOST 1048576: true; the input reads as it did. -/
def fnDownTwiceUptoRow : OpenClaim := { program := "ytlpfmciahhkncaadoor", sum := "e808a7aa696557ba9df485d4b9b1db9e485f33a63bfa6eb97bf2f8409751e364", func := "loop.example/disclosurecontrol/laws.FnDownTwice", spec := "fnDownTwice", inPlace := ["internal/reflectlite.TypeOf"], unfollowed := true, recurses := true, named := ["loop.example/disclosurecontrol/impl.errOutOfRange"], ifaces := true, apart := false, laid := [("loop.example/disclosurecontrol/impl.errOutOfRange", laid_loop_example_disclosurecontrol_impl_errOutOfRange)], narrowed := true }
def FnDownTwiceUptoSaid : Prop := fnDownTwiceUptoRow.holds Tryd.pinned (OpenSpec.upto fnDownTwiceSpec)

/-- 'laws.FnNearDraw', WHERE WHAT IT READS IS OF BULK AT MOST 1048576: true; the input reads as it did. -/
def fnNearDrawUptoRow : OpenClaim := { program := "ytlpfmciahhkncaadoor", sum := "e808a7aa696557ba9df485d4b9b1db9e485f33a63bfa6eb97bf2f8409751e364", func := "loop.example/disclosurecontrol/laws.FnNearDraw", spec := "fnNearDraw", inPlace := ["internal/reflectlite.TypeOf"], unfollowed := true, recurses := true, named := ["loop.example/disclosurecontrol/impl.errOutOfRange"], ifaces := true, apart := false, laid := [("loop.example/disclosurecontrol/impl.errOutOfRange", laid_loop_example_disclosurecontrol_impl_errOutOfRange)], narrowed := true }
def FnNearDrawUptoSaid : Prop := fnNearDrawUptoRow.holds Tryd.pinned (OpenSpec.upto fnNearDrawSpec)

/-- 'laws.FnExactRoundDown', WHERE WHAT IT READS IS OF BULK AT MOST 1048576: true; the input reads as it did. -/
def fnExactRoundDownUptoRow : OpenClaim := { program := "ytlpfmciahhkncaadoor", sum := "e808a7aa696557ba9df485d4b9b1db9e485f33a63bfa6eb97bf2f8409751e364", func := "loop.example/disclosurecontrol/laws.FnExactRoundDown", spec := "fnExactRoundDown", inPlace := ["internal/reflectlite.TypeOf"], unfollowed := true, recurses := true, named := ["loop.example/disclosurecontrol/impl.errOutOfRange"], ifaces := true, apart := false, laid := [("loop.example/disclosurecontrol/impl.errOutOfRange", laid_loop_example_disclosurecontrol_impl_errOutOfRange)], narrowed := true }
def FnExactRoundDownUptoSaid : Prop := fnExactRoundDownUptoRow.holds Tryd.pinned (OpenSpec.upto fnExactRoundDownSpec)

/-- 'laws.FnExactRoundNear', WHERE WHAT IT READS IS OF BULK AT MOST 1048576: true; the input reads as it did. -/
def fnExactRoundNearUptoRow : OpenClaim := { program := "ytlpfmciahhkncaadoor", sum := "e808a7aa696557ba9df485d4b9b1db9e485f33a63bfa6eb97bf2f8409751e364", func := "loop.example/disclosurecontrol/laws.FnExactRoundNear", spec := "fnExactRoundNear", inPlace := ["internal/reflectlite.TypeOf"], unfollowed := true, recurses := true, named := ["loop.example/disclosurecontrol/impl.errOutOfRange"], ifaces := true, apart := false, laid := [("loop.example/disclosurecontrol/impl.errOutOfRange", laid_loop_example_disclosurecontrol_impl_errOutOfRange)], narrowed := true }
def FnExactRoundNearUptoSaid : Prop := fnExactRoundNearUptoRow.holds Tryd.pinned (OpenSpec.upto fnExactRoundNearSpec)

/-- 'laws.FnExactRoundDraw', WHERE WHAT IT READS IS OF BULK AT MOST 1048576: true; the input reads as it did. -/
def fnExactRoundDrawUptoRow : OpenClaim := { program := "ytlpfmciahhkncaadoor", sum := "e808a7aa696557ba9df485d4b9b1db9e485f33a63bfa6eb97bf2f8409751e364", func := "loop.example/disclosurecontrol/laws.FnExactRoundDraw", spec := "fnExactRoundDraw", inPlace := ["internal/reflectlite.TypeOf"], unfollowed := true, recurses := true, named := ["loop.example/disclosurecontrol/impl.errOutOfRange"], ifaces := true, apart := false, laid := [("loop.example/disclosurecontrol/impl.errOutOfRange", laid_loop_example_disclosurecontrol_impl_errOutOfRange)], narrowed := true }
def FnExactRoundDrawUptoSaid : Prop := fnExactRoundDrawUptoRow.holds Tryd.pinned (OpenSpec.upto fnExactRoundDrawSpec)

/-- 'laws.FnExactRoundLow', WHERE WHAT IT READS IS OF BULK AT MOST 1048576: true; the input reads as it did. -/
def fnExactRoundLowUptoRow : OpenClaim := { program := "ytlpfmciahhkncaadoor", sum := "e808a7aa696557ba9df485d4b9b1db9e485f33a63bfa6eb97bf2f8409751e364", func := "loop.example/disclosurecontrol/laws.FnExactRoundLow", spec := "fnExactRoundLow", inPlace := ["internal/reflectlite.TypeOf"], unfollowed := true, recurses := true, named := ["loop.example/disclosurecontrol/impl.errOutOfRange"], ifaces := true, apart := false, laid := [("loop.example/disclosurecontrol/impl.errOutOfRange", laid_loop_example_disclosurecontrol_impl_errOutOfRange)], narrowed := true }
def FnExactRoundLowUptoSaid : Prop := fnExactRoundLowUptoRow.holds Tryd.pinned (OpenSpec.upto fnExactRoundLowSpec)

/-- 'laws.FnExactRoundHigh', WHERE WHAT IT READS IS OF BULK AT MOST 1048576: true; the input reads as it did. -/
def fnExactRoundHighUptoRow : OpenClaim := { program := "ytlpfmciahhkncaadoor", sum := "e808a7aa696557ba9df485d4b9b1db9e485f33a63bfa6eb97bf2f8409751e364", func := "loop.example/disclosurecontrol/laws.FnExactRoundHigh", spec := "fnExactRoundHigh", inPlace := ["internal/reflectlite.TypeOf"], unfollowed := true, recurses := true, named := ["loop.example/disclosurecontrol/impl.errOutOfRange"], ifaces := true, apart := false, laid := [("loop.example/disclosurecontrol/impl.errOutOfRange", laid_loop_example_disclosurecontrol_impl_errOutOfRange)], narrowed := true }
def FnExactRoundHighUptoSaid : Prop := fnExactRoundHighUptoRow.holds Tryd.pinned (OpenSpec.upto fnExactRoundHighSpec)

end Rows
end Go.Proofs.YtlpfmciahhkncaaDoor
