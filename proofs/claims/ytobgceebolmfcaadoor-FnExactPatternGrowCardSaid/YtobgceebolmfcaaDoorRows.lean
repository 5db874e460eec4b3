/-
  NARROWER THAN 'FOR EVERY INPUT', by the rows' own cells (each row's printed sentence says how): FnPatternStep: laid · FnPatternStepRow: laid · FnPatternGrow: laid · FnPatternGrowStep: laid · FnPatternGrowNone: laid · FnPatternFail: laid · FnPatternCostGrow: laid · FnPatternLine: laid · FnExactPatternStep: laid · FnExactPatternGrow: laid.
  DERIVED. THE GIVEN ROWS OF THIS SEAT. 10 by the template 'for every input the law returns true; each argument reads behind the call as it read before'; 0 by the template 'total and deterministic' (their statements: YtobgceebolmfcaaDoorTotals.lean).
  GIVEN WITH THE SEED: the statements are not yours to turn. If you find one false, say at which input.
  Laid BY PROGRAM, IN A SANDBOX (cutbox-rows.mjs): the forced cells as the released guide's own fill.sh prints them over the translation 9be3574b95dcd1a9… (all of the seat's roots in one cut). By AI agents, Wed Nov 11 2026. No macro, syntax, notation, axiom, sorry.
-/
import Derived.Test.YtobgceebolmfcaaDoorChecked
import GoSem.Claim
import GoSem.ClaimJoined
import GoSem.ClaimMapViews
import Derived.JoinedTies
import Derived.KernelRfl
namespace Go.Proofs.YtobgceebolmfcaaDoor
/- THE CELL 'sum', in the pinned program and in every row, IS THE sha256 OF THE DUMP (.gsa) THAT YtobgceebolmfcaaDoorProg.lean LOADS. Nothing in Lean hashes anything: it is a label: what it is worth is what the hold of that sum in a sandbox is worth. -/
noncomputable def Tryd.pinned : Pinned := { name := "ytobgceebolmfcaadoor", sum := "9be3574b95dcd1a9ef4e17c9f65e2e0e323c3fa3c19669001c270417e64e5c61", checked := Tryd.checked }
namespace Rows
def none {H : Type} : Left H := { results := [], args := [] }

/- WHAT THE LISTED PACKAGE-LEVEL VARIABLES READ AS WHEN THE CALL BEGINS. Each datum BY PROGRAM (the guide's laid-datum.mjs) off the statement by which the dump's own 'gosem.cut.vars' lays the variable. In a bare row this is a premise. The card (YtobgceebolmfcaaDoorCards.lean) ties it to the program's text. -/
def laid_math_bits_deBruijn32tab {H : Type} : DataW H := .agg [.lit (.int .u8 0), .lit (.int .u8 1), .lit (.int .u8 28), .lit (.int .u8 2), .lit (.int .u8 29), .lit (.int .u8 14), .lit (.int .u8 24), .lit (.int .u8 3), .lit (.int .u8 30), .lit (.int .u8 22), .lit (.int .u8 20), .lit (.int .u8 15), .lit (.int .u8 25), .lit (.int .u8 17), .lit (.int .u8 4), .lit (.int .u8 8), .lit (.int .u8 31), .lit (.int .u8 27), .lit (.int .u8 13), .lit (.int .u8 23), .lit (.int .u8 21), .lit (.int .u8 19), .lit (.int .u8 16), .lit (.int .u8 7), .lit (.int .u8 26), .lit (.int .u8 12), .lit (.int .u8 18), .lit (.int .u8 6), .lit (.int .u8 11), .lit (.int .u8 5), .lit (.int .u8 10), .lit (.int .u8 9)]
def laid_math_bits_deBruijn64tab {H : Type} : DataW H := .agg [.lit (.int .u8 0), .lit (.int .u8 1), .lit (.int .u8 56), .lit (.int .u8 2), .lit (.int .u8 57), .lit (.int .u8 49), .lit (.int .u8 28), .lit (.int .u8 3), .lit (.int .u8 61), .lit (.int .u8 58), .lit (.int .u8 42), .lit (.int .u8 50), .lit (.int .u8 38), .lit (.int .u8 29), .lit (.int .u8 17), .lit (.int .u8 4), .lit (.int .u8 62), .lit (.int .u8 47), .lit (.int .u8 59), .lit (.int .u8 36), .lit (.int .u8 45), .lit (.int .u8 43), .lit (.int .u8 51), .lit (.int .u8 22), .lit (.int .u8 53), .lit (.int .u8 39), .lit (.int .u8 33), .lit (.int .u8 30), .lit (.int .u8 24), .lit (.int .u8 18), .lit (.int .u8 12), .lit (.int .u8 5), .lit (.int .u8 63), .lit (.int .u8 55), .lit (.int .u8 48), .lit (.int .u8 27), .lit (.int .u8 60), .lit (.int .u8 41), .lit (.int .u8 37), .lit (.int .u8 16), .lit (.int .u8 46), .lit (.int .u8 35), .lit (.int .u8 44), .lit (.int .u8 21), .lit (.int .u8 52), .lit (.int .u8 32), .lit (.int .u8 23), .lit (.int .u8 11), .lit (.int .u8 54), .lit (.int .u8 26), .lit (.int .u8 40), .lit (.int .u8 15), .lit (.int .u8 34), .lit (.int .u8 20), .lit (.int .u8 31), .lit (.int .u8 10), .lit (.int .u8 25), .lit (.int .u8 14), .lit (.int .u8 19), .lit (.int .u8 9), .lit (.int .u8 13), .lit (.int .u8 8), .lit (.int .u8 7), .lit (.int .u8 6)]

/-- 'laws.FnPatternStep': WHATEVER THE INPUT: true; the input reads as it did. -/
def fnPatternStepSpec : ChangeSpec := { name := "fnPatternStep", fn := fun _ => fun
  | [d] => { results := [.lit (.bool true)], args := [d] }
  | _ => none }
def fnPatternStepRow : OpenClaim := { program := "ytobgceebolmfcaadoor", sum := "9be3574b95dcd1a9ef4e17c9f65e2e0e323c3fa3c19669001c270417e64e5c61", func := "loop.example/disclosurecontrol/laws.FnPatternStep", spec := "fnPatternStep", unfollowed := true, recurses := true, named := ["math/bits.deBruijn32tab", "math/bits.deBruijn64tab"], apart := false, laid := [("math/bits.deBruijn32tab", laid_math_bits_deBruijn32tab), ("math/bits.deBruijn64tab", laid_math_bits_deBruijn64tab)] }
def FnPatternStepSaid : Prop := fnPatternStepRow.holds Tryd.pinned (OpenSpec.ofChange fnPatternStepSpec)

/-- ITS FALSE NEIGHBOUR: 'it returns false'. Refute it at one input. -/
def fnPatternStepWrong : ChangeSpec := { name := "fnPatternStep", fn := fun _ => fun
  | [d] => { results := [.lit (.bool false)], args := [d] }
  | _ => none }
def FnPatternStepWrongFalsely : Prop := fnPatternStepRow.holds Tryd.pinned (OpenSpec.ofChange fnPatternStepWrong)

/-- 'laws.FnPatternStepRow': WHATEVER THE INPUT: true; the input reads as it did. -/
def fnPatternStepRowSpec : ChangeSpec := { name := "fnPatternStepRow", fn := fun _ => fun
  | [d] => { results := [.lit (.bool true)], args := [d] }
  | _ => none }
def fnPatternStepRowRow : OpenClaim := { program := "ytobgceebolmfcaadoor", sum := "9be3574b95dcd1a9ef4e17c9f65e2e0e323c3fa3c19669001c270417e64e5c61", func := "loop.example/disclosurecontrol/laws.FnPatternStepRow", spec := "fnPatternStepRow", unfollowed := true, recurses := true, named := ["math/bits.deBruijn32tab", "math/bits.deBruijn64tab"], apart := false, laid := [("math/bits.deBruijn32tab", laid_math_bits_deBruijn32tab), ("math/bits.deBruijn64tab", laid_math_bits_deBruijn64tab)] }
def FnPatternStepRowSaid : Prop := fnPatternStepRowRow.holds Tryd.pinned (OpenSpec.ofChange fnPatternStepRowSpec)

/-- ITS FALSE NEIGHBOUR: 'it returns false'. Refute it at one input. -/
def fnPatternStepRowWrong : ChangeSpec := { name := "fnPatternStepRow", fn := fun _ => fun
  | [d] => { results := [.lit (.bool false)], args := [d] }
  | _ => none }
def FnPatternStepRowWrongFalsely : Prop := fnPatternStepRowRow.holds Tryd.pinned (OpenSpec.ofChange fnPatternStepRowWrong)

/-- 'laws.FnPatternGrow': WHATEVER THE INPUT: true; the input reads as it did. -/
def fnPatternGrowSpec : ChangeSpec := { name := "fnPatternGrow", fn := fun _ => fun
  | [d] => { results := [.lit (.bool true)], args := [d] }
  | _ => none }
def fnPatternGrowRow : OpenClaim := { program := "ytobgceebolmfcaadoor", sum := "9be3574b95dcd1a9ef4e17c9f65e2e0e323c3fa3c19669001c270417e64e5c61", func := "loop.example/disclosurecontrol/laws.FnPatternGrow", spec := "fnPatternGrow", unfollowed := true, recurses := true, named := ["math/bits.deBruijn32tab", "math/bits.deBruijn64tab"], apart := false, laid := [("math/bits.deBruijn32tab", laid_math_bits_deBruijn32tab), ("math/bits.deBruijn64tab", laid_math_bits_deBruijn64tab)] }
def FnPatternGrowSaid : Prop := fnPatternGrowRow.holds Tryd.pinned (OpenSpec.ofChange fnPatternGrowSpec)

/-- ITS FALSE NEIGHBOUR: 'it returns false'. Refute it at one input. -/
def fnPatternGrowWrong : ChangeSpec := { name := "fnPatternGrow", fn := fun _ => fun
  | [d] => { results := [.lit (.bool false)], args := [d] }
  | _ => none }
def FnPatternGrowWrongFalsely : Prop := fnPatternGrowRow.holds Tryd.pinned (OpenSpec.ofChange fnPatternGrowWrong)

/-- 'laws.FnPatternGrowStep': WHATEVER THE INPUT: true; the input reads as it did. -/
def fnPatternGrowStepSpec : ChangeSpec := { name := "fnPatternGrowStep", fn := fun _ => fun
  | [d] => { results := [.lit (.bool true)], args := [d] }
  | _ => none }
def fnPatternGrowStepRow : OpenClaim := { program := "ytobgceebolmfcaadoor", sum := "9be3574b95dcd1a9ef4e17c9f65e2e0e323c3fa3c19669001c270417e64e5c61", func := "loop.example/disclosurecontrol/laws.FnPatternGrowStep", spec := "fnPatternGrowStep", unfollowed := true, recurses := true, named := ["math/bits.deBruijn32tab", "math/bits.deBruijn64tab"], apart := false, laid := [("math/bits.deBruijn32tab", laid_math_bits_deBruijn32tab), ("math/bits.deBruijn64tab", laid_math_bits_deBruijn64tab)] }
def FnPatternGrowStepSaid : Prop := fnPatternGrowStepRow.holds Tryd.pinned (OpenSpec.ofChange fnPatternGrowStepSpec)

/-- ITS FALSE NEIGHBOUR: 'it returns false'. Refute it at one input. -/
def fnPatternGrowStepWrong : ChangeSpec := { name := "fnPatternGrowStep", fn := fun _ => fun
  | [d] => { results := [.lit (.bool false)], args := [d] }
  | _ => none }
def FnPatternGrowStepWrongFalsely : Prop := fnPatternGrowStepRow.holds Tryd.pinned (OpenSpec.ofChange fnPatternGrowStepWrong)

/-- 'laws.FnPatternGrowNone': WHATEVER THE INPUT: true; the input reads as it did. -/
def fnPatternGrowNoneSpec : ChangeSpec := { name := "fnPatternGrowNone", fn := fun _ => fun
  | [d] => { results := [.lit (.bool true)], args := [d] }
  | _ => none }
def fnPatternGrowNoneRow : OpenClaim := { program := "ytobgceebolmfcaadoor", sum := "9be3574b95dcd1a9ef4e17c9f65e2e0e323c3fa3c19669001c270417e64e5c61", func := "loop.example/disclosurecontrol/laws.FnPatternGrowNone", spec := "fnPatternGrowNone", unfollowed := true, recurses := true, named := ["math/bits.deBruijn32tab", "math/bits.deBruijn64tab"], apart := false, laid := [("math/bits.deBruijn32tab", laid_math_bits_deBruijn32tab), ("math/bits.deBruijn64tab", laid_math_bits_deBruijn64tab)] }
def FnPatternGrowNoneSaid : Prop := fnPatternGrowNoneRow.holds Tryd.pinned (OpenSpec.ofChange fnPatternGrowNoneSpec)

/-- ITS FALSE NEIGHBOUR: 'it returns false'. Refute it at one input. -/
def fnPatternGrowNoneWrong : ChangeSpec := { name := "fnPatternGrowNone", fn := fun _ => fun
  | [d] => { results := [.lit (.bool false)], args := [d] }
  | _ => none }
def FnPatternGrowNoneWrongFalsely : Prop := fnPatternGrowNoneRow.holds Tryd.pinned (OpenSpec.ofChange fnPatternGrowNoneWrong)

/-- 'laws.FnPatternFail': WHATEVER THE INPUT: true; the input reads as it did. -/
def fnPatternFailSpec : ChangeSpec := { name := "fnPatternFail", fn := fun _ => fun
  | [d] => { results := [.lit (.bool true)], args := [d] }
  | _ => none }
def fnPatternFailRow : OpenClaim := { program := "ytobgceebolmfcaadoor", sum := "9be3574b95dcd1a9ef4e17c9f65e2e0e323c3fa3c19669001c270417e64e5c61", func := "loop.example/disclosurecontrol/laws.FnPatternFail", spec := "fnPatternFail", unfollowed := true, recurses := true, named := ["math/bits.deBruijn32tab", "math/bits.deBruijn64tab"], apart := false, laid := [("math/bits.deBruijn32tab", laid_math_bits_deBruijn32tab), ("math/bits.deBruijn64tab", laid_math_bits_deBruijn64tab)] }
def FnPatternFailSaid : Prop := fnPatternFailRow.holds Tryd.pinned (OpenSpec.ofChange fnPatternFailSpec)

/-- ITS FALSE NEIGHBOUR: 'it returns false'. Refute it at one input. -/
def fnPatternFailWrong : ChangeSpec := { name := "fnPatternFail", fn := fun _ => fun
  | [d] => { results := [.lit (.bool false)], args := [d] }
  | _ => none }
def FnPatternFailWrongFalsely : Prop := fnPatternFailRow.holds Tryd.pinned (OpenSpec.ofChange fnPatternFailWrong)

/-- 'laws.FnPatternCostGrow': WHATEVER THE INPUT: true; the input reads as it did. -/
def fnPatternCostGrowSpec : ChangeSpec := { name := "fnPatternCostGrow", fn := fun _ => fun
  | [d] => { results := [.lit (.bool true)], args := [d] }
  | _ => none }
def fnPatternCostGrowRow : OpenClaim := { program := "ytobgceebolmfcaadoor", sum := "9be3574b95dcd1a9ef4e17c9f65e2e0e323c3fa3c19669001c270417e64e5c61", func := "loop.example/disclosurecontrol/laws.FnPatternCostGrow", spec := "fnPatternCostGrow", unfollowed := true, recurses := true, named := ["math/bits.deBruijn32tab", "math/bits.deBruijn64tab"], apart := false, laid := [("math/bits.deBruijn32tab", laid_math_bits_deBruijn32tab), ("math/bits.deBruijn64tab", laid_math_bits_deBruijn64tab)] }
def FnPatternCostGrowSaid : Prop := fnPatternCostGrowRow.holds Tryd.pinned (OpenSpec.ofChange fnPatternCostGrowSpec)

/-- ITS FALSE NEIGHBOUR: 'it returns false'. Refute it at one input. -/
def fnPatternCostGrowWrong : ChangeSpec := { name := "fnPatternCostGrow", fn := fun _ => fun
  | [d] => { results := [.lit (.bool false)], args := [d] }
  | _ => none }
def FnPatternCostGrowWrongFalsely : Prop := fnPatternCostGrowRow.holds Tryd.pinned (OpenSpec.ofChange fnPatternCostGrowWrong)

/-- 'laws.FnPatternLine': WHATEVER THE INPUT: true; the input reads as it did. -/
def fnPatternLineSpec : ChangeSpec := { name := "fnPatternLine", fn := fun _ => fun
  | [d] => { results := [.lit (.bool true)], args := [d] }
  | _ => none }
def fnPatternLineRow : OpenClaim := { program := "ytobgceebolmfcaadoor", sum := "9be3574b95dcd1a9ef4e17c9f65e2e0e323c3fa3c19669001c270417e64e5c61", func := "loop.example/disclosurecontrol/laws.FnPatternLine", spec := "fnPatternLine", unfollowed := true, recurses := true, named := ["math/bits.deBruijn32tab", "math/bits.deBruijn64tab"], apart := false, laid := [("math/bits.deBruijn32tab", laid_math_bits_deBruijn32tab), ("math/bits.deBruijn64tab", laid_math_bits_deBruijn64tab)] }
def FnPatternLineSaid : Prop := fnPatternLineRow.holds Tryd.pinned (OpenSpec.ofChange fnPatternLineSpec)

/-- ITS FALSE NEIGHBOUR: 'it returns false'. Refute it at one input. -/
def fnPatternLineWrong : ChangeSpec := { name := "fnPatternLine", fn := fun _ => fun
  | [d] => { results := [.lit (.bool false)], args := [d] }
  | _ => none }
def FnPatternLineWrongFalsely : Prop := fnPatternLineRow.holds Tryd.pinned (OpenSpec.ofChange fnPatternLineWrong)

/-- 'laws.FnExactPatternStep': WHATEVER THE INPUT: true; the input reads as it did. -/
def fnExactPatternStepSpec : ChangeSpec := { name := "fnExactPatternStep", fn := fun _ => fun
  | [d1, d2, d3, d4] => { results := [.lit (.bool true)], args := [d1, d2, d3, d4] }
  | _ => none }
def fnExactPatternStepRow : OpenClaim := { program := "ytobgceebolmfcaadoor", sum := "9be3574b95dcd1a9ef4e17c9f65e2e0e323c3fa3c19669001c270417e64e5c61", func := "loop.example/disclosurecontrol/laws.FnExactPatternStep", spec := "fnExactPatternStep", unfollowed := true, recurses := true, named := ["math/bits.deBruijn32tab", "math/bits.deBruijn64tab"], apart := false, laid := [("math/bits.deBruijn32tab", laid_math_bits_deBruijn32tab), ("math/bits.deBruijn64tab", laid_math_bits_deBruijn64tab)] }
def FnExactPatternStepSaid : Prop := fnExactPatternStepRow.holds Tryd.pinned (OpenSpec.ofChange fnExactPatternStepSpec)

/-- ITS FALSE NEIGHBOUR: 'it returns false'. Refute it at one input. -/
def fnExactPatternStepWrong : ChangeSpec := { name := "fnExactPatternStep", fn := fun _ => fun
  | [d1, d2, d3, d4] => { results := [.lit (.bool false)], args := [d1, d2, d3, d4] }
  | _ => none }
def FnExactPatternStepWrongFalsely : Prop := fnExactPatternStepRow.holds Tryd.pinned (OpenSpec.ofChange fnExactPatternStepWrong)

/-- 'laws.FnExactPatternGrow': WHATEVER THE INPUT: true; the input reads as it did. -/
def fnExactPatternGrowSpec : ChangeSpec := { name := "fnExactPatternGrow", fn := fun _ => fun
  | [d1, d2, d3] => { results := [.lit (.bool true)], args := [d1, d2, d3] }
  | _ => none }
def fnExactPatternGrowRow : OpenClaim := { program := "ytobgceebolmfcaadoor", sum := "9be3574b95dcd1a9ef4e17c9f65e2e0e323c3fa3c19669001c270417e64e5c61", func := "loop.example/disclosurecontrol/laws.FnExactPatternGrow", spec := "fnExactPatternGrow", unfollowed := true, recurses := true, named := ["math/bits.deBruijn32tab", "math/bits.deBruijn64tab"], apart := false, laid := [("math/bits.deBruijn32tab", laid_math_bits_deBruijn32tab), ("math/bits.deBruijn64tab", laid_math_bits_deBruijn64tab)] }
def FnExactPatternGrowSaid : Prop := fnExactPatternGrowRow.holds Tryd.pinned (OpenSpec.ofChange fnExactPatternGrowSpec)

/-- ITS FALSE NEIGHBOUR: 'it returns false'. Refute it at one input. -/
def fnExactPatternGrowWrong : ChangeSpec := { name := "fnExactPatternGrow", fn := fun _ => fun
  | [d1, d2, d3] => { results := [.lit (.bool false)], args := [d1, d2, d3] }
  | _ => none }
def FnExactPatternGrowWrongFalsely : Prop := fnExactPatternGrowRow.holds Tryd.pinned (OpenSpec.ofChange fnExactPatternGrowWrong)

/- THE SECOND FORM. 'bulk': how many values and letters a reading holds, each counted each time it is reached (what is shared counts as often as it is met; a slice's spare places count too). A statement '..UptoSaid' is the law's where the arguments, and the package variables that the reading takes, are together of bulk at most 1048576: NARROWER than '..Said'. Prove '..Said' where nothing that the law and all that it calls make is longer than what came in: it says more and counts as full. Else prove '..UptoSaid'. A law counts once. -/
mutual
def uptoBulk {H : Type} : DataW H → Nat
  | .lit (.string bytes) => bytes.length + 1
  | .lit _ => 1
  | .nil => 1
  | .ptr d => uptoBulk d + 1
  | .slice elems spare => uptoBulkAll elems + uptoBulkAll spare + 1
  | .agg parts => uptoBulkAll parts + 1
  | .iface _ d => uptoBulk d + 1
  | .map entries => uptoBulkEntries entries + 1
  | .held _ => 1
def uptoBulkAll {H : Type} : List (DataW H) → Nat
  | [] => 0
  | d :: r => uptoBulk d + uptoBulkAll r
def uptoBulkEntries {H : Type} : List (Lit × DataW H) → Nat
  | [] => 0
  | x :: r => uptoBulkEntry x + uptoBulkEntries r
def uptoBulkEntry {H : Type} : Lit × DataW H → Nat
  | (.string bytes, d) => bytes.length + uptoBulk d + 1
  | (_, d) => uptoBulk d + 1
 end
def uptoSmall : (H : Type) → List (DataW H) → Bool := fun _ ds => decide (uptoBulkAll ds ≤ 1048576)
def OpenSpec.upto (s : _root_.Go.ChangeSpec) : _root_.Go.OpenSpec := { _root_.Go.OpenSpec.ofChange s with cond := some uptoSmall }

/-- 'laws.FnPatternStep', WHERE WHAT IT READS IS OF BULK AT MOST 1048576: true; the input reads as it did. -/
def fnPatternStepUptoRow : OpenClaim := { program := "ytobgceebolmfcaadoor", sum := "9be3574b95dcd1a9ef4e17c9f65e2e0e323c3fa3c19669001c270417e64e5c61", func := "loop.example/disclosurecontrol/laws.FnPatternStep", spec := "fnPatternStep", unfollowed := true, recurses := true, named := ["math/bits.deBruijn32tab", "math/bits.deBruijn64tab"], apart := false, laid := [("math/bits.deBruijn32tab", laid_math_bits_deBruijn32tab), ("math/bits.deBruijn64tab", laid_math_bits_deBruijn64tab)], narrowed := true }
def FnPatternStepUptoSaid : Prop := fnPatternStepUptoRow.holds Tryd.pinned (OpenSpec.upto fnPatternStepSpec)

/-- 'laws.FnPatternStepRow', WHERE WHAT IT READS IS OF BULK AT MOST 1048576: true; the input reads as it did. -/
def fnPatternStepRowUptoRow : OpenClaim := { program := "ytobgceebolmfcaadoor", sum := "9be3574b95dcd1a9ef4e17c9f65e2e0e323c3fa3c19669001c270417e64e5c61", func := "loop.example/disclosurecontrol/laws.FnPatternStepRow", spec := "fnPatternStepRow", unfollowed := true, recurses := true, named := ["math/bits.deBruijn32tab", "math/bits.deBruijn64tab"], apart := false, laid := [("math/bits.deBruijn32tab", laid_math_bits_deBruijn32tab), ("math/bits.deBruijn64tab", laid_math_bits_deBruijn64tab)], narrowed := true }
def FnPatternStepRowUptoSaid : Prop := fnPatternStepRowUptoRow.holds Tryd.pinned (OpenSpec.upto fnPatternStepRowSpec)

/-- 'laws.FnPatternGrow', WHERE WHAT IT READS IS OF BULK AT MOST 1048576: true; the input reads as it did. -/
def fnPatternGrowUptoRow : OpenClaim := { program := "ytobgceebolmfcaadoor", sum := "9be3574b95dcd1a9ef4e17c9f65e2e0e323c3fa3c19669001c270417e64e5c61", func := "loop.example/disclosurecontrol/laws.FnPatternGrow", spec := "fnPatternGrow", unfollowed := true, recurses := true, named := ["math/bits.deBruijn32tab", "math/bits.deBruijn64tab"], apart := false, laid := [("math/bits.deBruijn32tab", laid_math_bits_deBruijn32tab), ("math/bits.deBruijn64tab", laid_math_bits_deBruijn64tab)], narrowed := true }
def FnPatternGrowUptoSaid : Prop := fnPatternGrowUptoRow.holds Tryd.pinned (OpenSpec.upto fnPatternGrowSpec)

/-- 'laws.FnPatternGrowStep', WHERE WHAT IT READS IS OF BULK AT MOST 1048576: true; the input reads as it did. -/
def fnPatternGrowStepUptoRow : OpenClaim := { program := "ytobgceebolmfcaadoor", sum := "9be3574b95dcd1a9ef4e17c9f65e2e0e323c3fa3c19669001c270417e64e5c61", func := "loop.example/disclosurecontrol/laws.FnPatternGrowStep", spec := "fnPatternGrowStep", unfollowed := true, recurses := true, named := ["math/bits.deBruijn32tab", "math/bits.deBruijn64tab"], apart := false, laid := [("math/bits.deBruijn32tab", laid_math_bits_deBruijn32tab), ("math/bits.deBruijn64tab", laid_math_bits_deBruijn64tab)], narrowed := true }
def FnPatternGrowStepUptoSaid : Prop := fnPatternGrowStepUptoRow.holds Tryd.pinned (OpenSpec.upto fnPatternGrowStepSpec)

/-- 'laws.FnPatternGrowNone', WHERE WHAT IT READS IS OF BULK AT MOST 1048576: true; the input reads as it did. -/
def fnPatternGrowNoneUptoRow : OpenClaim := { program := "ytobgceebolmfcaadoor", sum := "9be3574b95dcd1a9ef4e17c9f65e2e0e323c3fa3c19669001c270417e64e5c61", func := "loop.example/disclosurecontrol/laws.FnPatternGrowNone", spec := "fnPatternGrowNone", unfollowed := true, recurses := true, named := ["math/bits.deBruijn32tab", "math/bits.deBruijn64tab"], apart := false, laid := [("math/bits.deBruijn32tab", laid_math_bits_deBruijn32tab), ("math/bits.deBruijn64tab", laid_math_bits_deBruijn64tab)], narrowed := true }
def FnPatternGrowNoneUptoSaid : Prop := fnPatternGrowNoneUptoRow.holds Tryd.pinned (OpenSpec.upto fnPatternGrowNoneSpec)

/-- 'laws.FnPatternFail', WHERE WHAT IT READS IS OF BULK AT MOST 1048576: true; the input reads as it did. -/
def fnPatternFailUptoRow : OpenClaim := { program := "ytobgceebolmfcaadoor", sum := "9be3574b95dcd1a9ef4e17c9f65e2e0e323c3fa3c19669001c270417e64e5c61", func := "loop.example/disclosurecontrol/laws.FnPatternFail", spec := "fnPatternFail", unfollowed := true, recurses := true, named := ["math/bits.deBruijn32tab", "math/bits.deBruijn64tab"], apart := false, laid := [("math/bits.deBruijn32tab", laid_math_bits_deBruijn32tab), ("math/bits.deBruijn64tab", laid_math_bits_deBruijn64tab)], narrowed := true }
def FnPatternFailUptoSaid : Prop := fnPatternFailUptoRow.holds Tryd.pinned (OpenSpec.upto fnPatternFailSpec)

/-- 'laws.FnPatternCostGrow', WHERE WHAT IT READS IS OF BULK AT MOST 1048576: true; the input reads as it did. -/
def fnPatternCostGrowUptoRow : OpenClaim := { program := "ytobgceebolmfcaadoor", sum := "9be3574b95dcd1a9ef4e17c9f65e2e0e323c3fa3c19669001c270417e64e5c61", func := "loop.example/disclosurecontrol/laws.FnPatternCostGrow", spec := "fnPatternCostGrow", unfollowed := true, recurses := true, named := ["math/bits.deBruijn32tab", "math/bits.deBruijn64tab"], apart := false, laid := [("math/bits.deBruijn32tab", laid_math_bits_deBruijn32tab), ("math/bits.deBruijn64tab", laid_math_bits_deBruijn64tab)], narrowed := true }
def FnPatternCostGrowUptoSaid : Prop := fnPatternCostGrowUptoRow.holds Tryd.pinned (OpenSpec.upto fnPatternCostGrowSpec)

/-- 'laws.FnPatternLine', WHERE WHAT IT READS IS OF BULK AT MOST 1048576: true; the input reads as it did. -/
def fnPatternLineUptoRow : OpenClaim := { program := "ytobgceebolmfcaadoor", sum := "9be3574b95dcd1a9ef4e17c9f65e2e0e323c3fa3c19669001c270417e64e5c61", func := "loop.example/disclosurecontrol/laws.FnPatternLine", spec := "fnPatternLine", unfollowed := true, recurses := true, named := ["math/bits.deBruijn32tab", "math/bits.deBruijn64tab"], apart := false, laid := [("math/bits.deBruijn32tab", laid_math_bits_deBruijn32tab), ("math/bits.deBruijn64tab", laid_math_bits_deBruijn64tab)], narrowed := true }
def FnPatternLineUptoSaid : Prop := fnPatternLineUptoRow.holds Tryd.pinned (OpenSpec.upto fnPatternLineSpec)

/-- 'laws.FnExactPatternStep', WHERE WHAT IT READS IS OF BULK AT MOST 1048576: true; the input reads as it did. -/
def fnExactPatternStepUptoRow : OpenClaim := { program := "ytobgceebolmfcaadoor", sum := "9be3574b95dcd1a9ef4e17c9f65e2e0e323c3fa3c19669001c270417e64e5c61", func := "loop.example/disclosurecontrol/laws.FnExactPatternStep", spec := "fnExactPatternStep", unfollowed := true, recurses := true, named := ["math/bits.deBruijn32tab", "math/bits.deBruijn64tab"], apart := false, laid := [("math/bits.deBruijn32tab", laid_math_bits_deBruijn32tab), ("math/bits.deBruijn64tab", laid_math_bits_deBruijn64tab)], narrowed := true }
def FnExactPatternStepUptoSaid : Prop := fnExactPatternStepUptoRow.holds Tryd.pinned (OpenSpec.upto fnExactPatternStepSpec)

/-- 'laws.FnExactPatternGrow', WHERE WHAT IT READS IS OF BULK AT MOST 1048576: true; the input reads as it did. -/
def fnExactPatternGrowUptoRow : OpenClaim := { program := "ytobgceebolmfcaadoor", sum := "9be3574b95dcd1a9ef4e17c9f65e2e0e323c3fa3c19669001c270417e64e5c61", func := "loop.example/disclosurecontrol/laws.FnExactPatternGrow", spec := "fnExactPatternGrow", unfollowed := true, recurses := true, named := ["math/bits.deBruijn32tab", "math/bits.deBruijn64tab"], apart := false, laid := [("math/bits.deBruijn32tab", laid_math_bits_deBruijn32tab), ("math/bits.deBruijn64tab", laid_math_bits_deBruijn64tab)], narrowed := true }
def FnExactPatternGrowUptoSaid : Prop := fnExactPatternGrowUptoRow.holds Tryd.pinned (OpenSpec.upto fnExactPatternGrowSpec)

end Rows
end Go.Proofs.YtobgceebolmfcaaDoor
