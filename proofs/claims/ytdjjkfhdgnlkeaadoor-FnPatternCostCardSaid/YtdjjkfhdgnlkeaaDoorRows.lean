/-
  NARROWER THAN 'FOR EVERY INPUT', by the rows' own cells (each row's printed sentence says how): FnSafe: laid · FnSafeMore: laid · FnSafeTurn: laid · FnSafeNone: laid · FnPatternCost: laid.
  DERIVED. THE GIVEN ROWS OF THIS SEAT. 5 by the template 'for every input the law returns true; each argument reads behind the call as it read before'; 0 by the template 'total and deterministic' (their statements: YtdjjkfhdgnlkeaaDoorTotals.lean).
  GIVEN WITH THE SEED: the statements are not yours to turn. If you find one false, say at which input.
  Laid BY PROGRAM, IN A SANDBOX (cutbox-rows.mjs): the forced cells as the released guide's own fill.sh prints them over the translation 3689f9daaa901011… (all of the seat's roots in one cut). By AI agents, Wed Nov 11 2026. No macro, syntax, notation, axiom, sorry.
-/
import Derived.Test.YtdjjkfhdgnlkeaaDoorChecked
import GoSem.Claim
import GoSem.ClaimJoined
import GoSem.ClaimMapViews
import Derived.JoinedTies
import Derived.KernelRfl
namespace Go.Proofs.YtdjjkfhdgnlkeaaDoor
/- THE CELL 'sum', in the pinned program and in every row, IS THE sha256 OF THE DUMP (.gsa) THAT YtdjjkfhdgnlkeaaDoorProg.lean LOADS. Nothing in Lean hashes anything: it is a label: what it is worth is what the hold of that sum in a sandbox is worth. -/
noncomputable def Tryd.pinned : Pinned := { name := "ytdjjkfhdgnlkeaadoor", sum := "3689f9daaa901011de4bc26858d083d272cae1e758dc551ba4b4fe4df97f6005", checked := Tryd.checked }
namespace Rows
def none {H : Type} : Left H := { results := [], args := [] }

/- WHAT THE LISTED PACKAGE-LEVEL VARIABLES READ AS WHEN THE CALL BEGINS. Each datum BY PROGRAM (the guide's laid-datum.mjs) off the statement by which the dump's own 'gosem.cut.vars' lays the variable. In a bare row this is a premise. The card (YtdjjkfhdgnlkeaaDoorCards.lean) ties it to the program's text. -/
def laid_math_bits_deBruijn32tab {H : Type} : DataW H := .agg [.lit (.int .u8 0), .lit (.int .u8 1), .lit (.int .u8 28), .lit (.int .u8 2), .lit (.int .u8 29), .lit (.int .u8 14), .lit (.int .u8 24), .lit (.int .u8 3), .lit (.int .u8 30), .lit (.int .u8 22), .lit (.int .u8 20), .lit (.int .u8 15), .lit (.int .u8 25), .lit (.int .u8 17), .lit (.int .u8 4), .lit (.int .u8 8), .lit (.int .u8 31), .lit (.int .u8 27), .lit (.int .u8 13), .lit (.int .u8 23), .lit (.int .u8 21), .lit (.int .u8 19), .lit (.int .u8 16), .lit (.int .u8 7), .lit (.int .u8 26), .lit (.int .u8 12), .lit (.int .u8 18), .lit (.int .u8 6), .lit (.int .u8 11), .lit (.int .u8 5), .lit (.int .u8 10), .lit (.int .u8 9)]
def laid_math_bits_deBruijn64tab {H : Type} : DataW H := .agg [.lit (.int .u8 0), .lit (.int .u8 1), .lit (.int .u8 56), .lit (.int .u8 2), .lit (.int .u8 57), .lit (.int .u8 49), .lit (.int .u8 28), .lit (.int .u8 3), .lit (.int .u8 61), .lit (.int .u8 58), .lit (.int .u8 42), .lit (.int .u8 50), .lit (.int .u8 38), .lit (.int .u8 29), .lit (.int .u8 17), .lit (.int .u8 4), .lit (.int .u8 62), .lit (.int .u8 47), .lit (.int .u8 59), .lit (.int .u8 36), .lit (.int .u8 45), .lit (.int .u8 43), .lit (.int .u8 51), .lit (.int .u8 22), .lit (.int .u8 53), .lit (.int .u8 39), .lit (.int .u8 33), .lit (.int .u8 30), .lit (.int .u8 24), .lit (.int .u8 18), .lit (.int .u8 12), .lit (.int .u8 5), .lit (.int .u8 63), .lit (.int .u8 55), .lit (.int .u8 48), .lit (.int .u8 27), .lit (.int .u8 60), .lit (.int .u8 41), .lit (.int .u8 37), .lit (.int .u8 16), .lit (.int .u8 46), .lit (.int .u8 35), .lit (.int .u8 44), .lit (.int .u8 21), .lit (.int .u8 52), .lit (.int .u8 32), .lit (.int .u8 23), .lit (.int .u8 11), .lit (.int .u8 54), .lit (.int .u8 26), .lit (.int .u8 40), .lit (.int .u8 15), .lit (.int .u8 34), .lit (.int .u8 20), .lit (.int .u8 31), .lit (.int .u8 10), .lit (.int .u8 25), .lit (.int .u8 14), .lit (.int .u8 19), .lit (.int .u8 9), .lit (.int .u8 13), .lit (.int .u8 8), .lit (.int .u8 7), .lit (.int .u8 6)]

/-- 'laws.FnSafe': WHATEVER THE INPUT: true; the input reads as it did. -/
def fnSafeSpec : ChangeSpec := { name := "fnSafe", fn := fun _ => fun
  | [d1, d2] => { results := [.lit (.bool true)], args := [d1, d2] }
  | _ => none }
def fnSafeRow : OpenClaim := { program := "ytdjjkfhdgnlkeaadoor", sum := "3689f9daaa901011de4bc26858d083d272cae1e758dc551ba4b4fe4df97f6005", func := "loop.example/disclosurecontrol/laws.FnSafe", spec := "fnSafe", unfollowed := true, recurses := true, named := ["math/bits.deBruijn32tab", "math/bits.deBruijn64tab"], apart := false, laid := [("math/bits.deBruijn32tab", laid_math_bits_deBruijn32tab), ("math/bits.deBruijn64tab", laid_math_bits_deBruijn64tab)] }
def FnSafeSaid : Prop := fnSafeRow.holds Tryd.pinned (OpenSpec.ofChange fnSafeSpec)

/-- ITS FALSE NEIGHBOUR: 'it returns false'. Refute it at one input. -/
def fnSafeWrong : ChangeSpec := { name := "fnSafe", fn := fun _ => fun
  | [d1, d2] => { results := [.lit (.bool false)], args := [d1, d2] }
  | _ => none }
def FnSafeWrongFalsely : Prop := fnSafeRow.holds Tryd.pinned (OpenSpec.ofChange fnSafeWrong)

/-- 'laws.FnSafeMore': WHATEVER THE INPUT: true; the input reads as it did. -/
def fnSafeMoreSpec : ChangeSpec := { name := "fnSafeMore", fn := fun _ => fun
  | [d1, d2] => { results := [.lit (.bool true)], args := [d1, d2] }
  | _ => none }
def fnSafeMoreRow : OpenClaim := { program := "ytdjjkfhdgnlkeaadoor", sum := "3689f9daaa901011de4bc26858d083d272cae1e758dc551ba4b4fe4df97f6005", func := "loop.example/disclosurecontrol/laws.FnSafeMore", spec := "fnSafeMore", unfollowed := true, recurses := true, named := ["math/bits.deBruijn32tab", "math/bits.deBruijn64tab"], apart := false, laid := [("math/bits.deBruijn32tab", laid_math_bits_deBruijn32tab), ("math/bits.deBruijn64tab", laid_math_bits_deBruijn64tab)] }
def FnSafeMoreSaid : Prop := fnSafeMoreRow.holds Tryd.pinned (OpenSpec.ofChange fnSafeMoreSpec)

/-- ITS FALSE NEIGHBOUR: 'it returns false'. Refute it at one input. -/
def fnSafeMoreWrong : ChangeSpec := { name := "fnSafeMore", fn := fun _ => fun
  | [d1, d2] => { results := [.lit (.bool false)], args := [d1, d2] }
  | _ => none }
def FnSafeMoreWrongFalsely : Prop := fnSafeMoreRow.holds Tryd.pinned (OpenSpec.ofChange fnSafeMoreWrong)

/-- 'laws.FnSafeTurn': WHATEVER THE INPUT: true; the input reads as it did. -/
def fnSafeTurnSpec : ChangeSpec := { name := "fnSafeTurn", fn := fun _ => fun
  | [d] => { results := [.lit (.bool true)], args := [d] }
  | _ => none }
def fnSafeTurnRow : OpenClaim := { program := "ytdjjkfhdgnlkeaadoor", sum := "3689f9daaa901011de4bc26858d083d272cae1e758dc551ba4b4fe4df97f6005", func := "loop.example/disclosurecontrol/laws.FnSafeTurn", spec := "fnSafeTurn", unfollowed := true, recurses := true, named := ["math/bits.deBruijn32tab", "math/bits.deBruijn64tab"], apart := false, laid := [("math/bits.deBruijn32tab", laid_math_bits_deBruijn32tab), ("math/bits.deBruijn64tab", laid_math_bits_deBruijn64tab)] }
def FnSafeTurnSaid : Prop := fnSafeTurnRow.holds Tryd.pinned (OpenSpec.ofChange fnSafeTurnSpec)

/-- ITS FALSE NEIGHBOUR: 'it returns false'. Refute it at one input. -/
def fnSafeTurnWrong : ChangeSpec := { name := "fnSafeTurn", fn := fun _ => fun
  | [d] => { results := [.lit (.bool false)], args := [d] }
  | _ => none }
def FnSafeTurnWrongFalsely : Prop := fnSafeTurnRow.holds Tryd.pinned (OpenSpec.ofChange fnSafeTurnWrong)

/-- 'laws.FnSafeNone': WHATEVER THE INPUT: true; the input reads as it did. -/
def fnSafeNoneSpec : ChangeSpec := { name := "fnSafeNone", fn := fun _ => fun
  | [d] => { results := [.lit (.bool true)], args := [d] }
  | _ => none }
def fnSafeNoneRow : OpenClaim := { program := "ytdjjkfhdgnlkeaadoor", sum := "3689f9daaa901011de4bc26858d083d272cae1e758dc551ba4b4fe4df97f6005", func := "loop.example/disclosurecontrol/laws.FnSafeNone", spec := "fnSafeNone", unfollowed := true, recurses := true, named := ["math/bits.deBruijn32tab", "math/bits.deBruijn64tab"], apart := false, laid := [("math/bits.deBruijn32tab", laid_math_bits_deBruijn32tab), ("math/bits.deBruijn64tab", laid_math_bits_deBruijn64tab)] }
def FnSafeNoneSaid : Prop := fnSafeNoneRow.holds Tryd.pinned (OpenSpec.ofChange fnSafeNoneSpec)

/-- ITS FALSE NEIGHBOUR: 'it returns false'. Refute it at one input. -/
def fnSafeNoneWrong : ChangeSpec := { name := "fnSafeNone", fn := fun _ => fun
  | [d] => { results := [.lit (.bool false)], args := [d] }
  | _ => none }
def FnSafeNoneWrongFalsely : Prop := fnSafeNoneRow.holds Tryd.pinned (OpenSpec.ofChange fnSafeNoneWrong)

/-- 'laws.FnPatternCost': WHATEVER THE INPUT: true; the input reads as it did. -/
def fnPatternCostSpec : ChangeSpec := { name := "fnPatternCost", fn := fun _ => fun
  | [d] => { results := [.lit (.bool true)], args := [d] }
  | _ => none }
def fnPatternCostRow : OpenClaim := { program := "ytdjjkfhdgnlkeaadoor", sum := "3689f9daaa901011de4bc26858d083d272cae1e758dc551ba4b4fe4df97f6005", func := "loop.example/disclosurecontrol/laws.FnPatternCost", spec := "fnPatternCost", unfollowed := true, recurses := true, named := ["math/bits.deBruijn32tab", "math/bits.deBruijn64tab"], apart := false, laid := [("math/bits.deBruijn32tab", laid_math_bits_deBruijn32tab), ("math/bits.deBruijn64tab", laid_math_bits_deBruijn64tab)] }
def FnPatternCostSaid : Prop := fnPatternCostRow.holds Tryd.pinned (OpenSpec.ofChange fnPatternCostSpec)

/-- ITS FALSE NEIGHBOUR: 'it returns false'. Refute it at one input. -/
def fnPatternCostWrong : ChangeSpec := { name := "fnPatternCost", fn := fun _ => fun
  | [d] => { results := [.lit (.bool false)], args := [d] }
  | _ => none }
def FnPatternCostWrongFalsely : Prop := fnPatternCostRow.holds Tryd.pinned (OpenSpec.ofChange fnPatternCostWrong)

/- THE SECOND FORM. 'bulk': how many values and letters a reading holds, each counted each time it is reached (what is shared counts as often as it is met; a slice's spare places count too). A statement '..UptoSaid' is the law's where the arguments, and the package variables that the reading takes, are together of bulk at most 1048576: NARROWER than '..Said'. Prove '..Said' where nothing that the law and all that it calls make is longer than what came in: it says more and counts as full. Else prove '..UptoSaid'. A law counts once. -/
mutual
def uptoBulk {H : Type} : DataW H → Nat
  | .lit (.string bytes) => bytes.length + 1
  | .lit _ => 1
  | .nil => 1
  | .ptr d => uptoBulk d + 1
  | .slice elems spare => uptoBulkAll elems + uptoBulkAll spare + 1
  | .agg parts => uptoBulkAll parts + 1
  | .iface _ d => uptoBulk d + 1
  | .map entries => uptoBulkEntries entries + 1
  | .held _ => 1
def uptoBulkAll {H : Type} : List (DataW H) → Nat
  | [] => 0
  | d :: r => uptoBulk d + uptoBulkAll r
def uptoBulkEntries {H : Type} : List (Lit × DataW H) → Nat
  | [] => 0
  | x :: r => uptoBulkEntry x + uptoBulkEntries r
def uptoBulkEntry {H : Type} : Lit × DataW H → Nat
  | (.string bytes, d) => bytes.length + uptoBulk d + 1
  | (_, d) => uptoBulk d + 1
 end
def uptoSmall : (H : Type) → List (DataW H) → Bool := fun _ ds => decide (uptoBulkAll ds ≤ 1048576)
def OpenSpec.upto (s : _root_.Go.ChangeSpec) : _root_.Go.OpenSpec := { _root_.Go.OpenSpec.ofChange s with cond := some uptoSmall }

/-- 'laws.FnSafe', WHERE WHAT IT READS IS OF BULK AT MOST 1048576: true; the input reads as it did. -/
def fnSafeUptoRow : OpenClaim := { program := "ytdjjkfhdgnlkeaadoor", sum := "3689f9daaa901011de4bc26858d083d272cae1e758dc551ba4b4fe4df97f6005", func := "loop.example/disclosurecontrol/laws.FnSafe", spec := "fnSafe", unfollowed := true, recurses := true, named := ["math/bits.deBruijn32tab", "math/bits.deBruijn64tab"], apart := false, laid := [("math/bits.deBruijn32tab", laid_math_bits_deBruijn32tab), ("math/bits.deBruijn64tab", laid_math_bits_deBruijn64tab)], narrowed := true }
def FnSafeUptoSaid : Prop := fnSafeUptoRow.holds Tryd.pinned (OpenSpec.upto fnSafeSpec)

/-- 'laws.FnSafeMore', WHERE WHAT IT READS IS OF BULK AT MOST 1048576: true; the input reads as it did. -/
def fnSafeMoreUptoRow : OpenClaim := { program := "ytdjjkfhdgnlkeaadoor", sum := "3689f9daaa901011de4bc26858d083d272cae1e758dc551ba4b4fe4df97f6005", func := "loop.example/disclosurecontrol/laws.FnSafeMore", spec := "fnSafeMore", unfollowed := true, recurses := true, named := ["math/bits.deBruijn32tab", "math/bits.deBruijn64tab"], apart := false, laid := [("math/bits.deBruijn32tab", laid_math_bits_deBruijn32tab), ("math/bits.deBruijn64tab", laid_math_bits_deBruijn64tab)], narrowed := true }
def FnSafeMoreUptoSaid : Prop := fnSafeMoreUptoRow.holds Tryd.pinned (OpenSpec.upto fnSafeMoreSpec)

/-- 'laws.FnSafeTurn', WHERE WHAT IT READS IS OF BULK AT MOST 1048576: true; the input reads as it did. -/
def fnSafeTurnUptoRow : OpenClaim := { program := "ytdjjkfhdgnlkeaadoor", sum := "3689f9daaa901011de4bc26858d083d272cae1e758dc551ba4b4fe4df97f6005", func := "loop.example/disclosurecontrol/laws.FnSafeTurn", spec := "fnSafeTurn", unfollowed := true, recurses := true, named := ["math/bits.deBruijn32tab", "math/bits.deBruijn64tab"], apart := false, laid := [("math/bits.deBruijn32tab", laid_math_bits_deBruijn32tab), ("math/bits.deBruijn64tab", laid_math_bits_deBruijn64tab)], narrowed := true }
def FnSafeTurnUptoSaid : Prop := fnSafeTurnUptoRow.holds Tryd.pinned (OpenSpec.upto fnSafeTurnSpec)

/-- 'laws.FnSafeNone', WHERE WHAT IT READS IS OF BULK AT MOST 1048576: true; the input reads as it did. -/
def fnSafeNoneUptoRow : OpenClaim := { program := "ytdjjkfhdgnlkeaadoor", sum := "3689f9daaa901011de4bc26858d083d272cae1e758dc551ba4b4fe4df97f6005", func := "loop.example/disclosurecontrol/laws.FnSafeNone", spec := "fnSafeNone", unfollowed := true, recurses := true, named := ["math/bits.deBruijn32tab", "math/bits.deBruijn64tab"], apart := false, laid := [("math/bits.deBruijn32tab", laid_math_bits_deBruijn32tab), ("math/bits.deBruijn64tab", laid_math_bits_deBruijn64tab)], narrowed := true }
def FnSafeNoneUptoSaid : Prop := fnSafeNoneUptoRow.holds Tryd.pinned (OpenSpec.upto fnSafeNoneSpec)

/-- 'laws.FnPatternCost', WHERE WHAT IT READS IS OF BULK AT MOST 1048576: true; the input reads as it did. -/
def fnPatternCostUptoRow : OpenClaim := { program := "ytdjjkfhdgnlkeaadoor", sum := "3689f9daaa901011de4bc26858d083d272cae1e758dc551ba4b4fe4df97f6005", func := "loop.example/disclosurecontrol/laws.FnPatternCost", spec := "fnPatternCost", unfollowed := true, recurses := true, named := ["math/bits.deBruijn32tab", "math/bits.deBruijn64tab"], apart := false, laid := [("math/bits.deBruijn32tab", laid_math_bits_deBruijn32tab), ("math/bits.deBruijn64tab", laid_math_bits_deBruijn64tab)], narrowed := true }
def FnPatternCostUptoSaid : Prop := fnPatternCostUptoRow.holds Tryd.pinned (OpenSpec.upto fnPatternCostSpec)

end Rows
end Go.Proofs.YtdjjkfhdgnlkeaaDoor
