/-
  NARROWER THAN 'FOR EVERY INPUT', by the rows' own cells (each row's printed sentence says how): FnPatternOk: laid · FnPatternNeed: laid · FnPatternOkTurn: laid · FnPatternNeedMore: laid · FnPatternOkSmall: laid · FnPatternNeedNone: laid · FnExactPatternSafe: laid · FnExactPatternNeed: laid · FnExactPatternOk: laid · FnExactPatternCost: laid.
  DERIVED. THE GIVEN ROWS OF THIS SEAT. 10 by the template 'for every input the law returns true; each argument reads behind the call as it read before'; 0 by the template 'total and deterministic' (their statements: YtcbgihjoopjmeaaDoorTotals.lean).
  GIVEN WITH THE SEED: the statements are not yours to turn. If you find one false, say at which input.
  Laid BY PROGRAM, IN A SANDBOX (cutbox-rows.mjs): the forced cells as the released guide's own fill.sh prints them over the translation 7f13879aa59b7d36… (all of the seat's roots in one cut). By AI agents, Wed Nov 11 2026. No macro, syntax, notation, axiom, sorry.
-/
import Derived.Test.YtcbgihjoopjmeaaDoorChecked
import GoSem.Claim
import GoSem.ClaimJoined
import GoSem.ClaimMapViews
import Derived.JoinedTies
import Derived.KernelRfl
namespace Go.Proofs.YtcbgihjoopjmeaaDoor
/- THE CELL 'sum', in the pinned program and in every row, IS THE sha256 OF THE DUMP (.gsa) THAT YtcbgihjoopjmeaaDoorProg.lean LOADS. Nothing in Lean hashes anything: it is a label: what it is worth is what the hold of that sum in a sandbox is worth. -/
noncomputable def Tryd.pinned : Pinned := { name := "ytcbgihjoopjmeaadoor", sum := "7f13879aa59b7d361cc842322b6998e08e72fff13b8c5bc332cb042f4ed1b965", checked := Tryd.checked }
namespace Rows
def none {H : Type} : Left H := { results := [], args := [] }

/- WHAT THE LISTED PACKAGE-LEVEL VARIABLES READ AS WHEN THE CALL BEGINS. Each datum BY PROGRAM (the guide's laid-datum.mjs) off the statement by which the dump's own 'gosem.cut.vars' lays the variable. In a bare row this is a premise. The card (YtcbgihjoopjmeaaDoorCards.lean) ties it to the program's text. -/
def laid_math_bits_deBruijn32tab {H : Type} : DataW H := .agg [.lit (.int .u8 0), .lit (.int .u8 1), .lit (.int .u8 28), .lit (.int .u8 2), .lit (.int .u8 29), .lit (.int .u8 14), .lit (.int .u8 24), .lit (.int .u8 3), .lit (.int .u8 30), .lit (.int .u8 22), .lit (.int .u8 20), .lit (.int .u8 15), .lit (.int .u8 25), .lit (.int .u8 17), .lit (.int .u8 4), .lit (.int .u8 8), .lit (.int .u8 31), .lit (.int .u8 27), .lit (.int .u8 13), .lit (.int .u8 23), .lit (.int .u8 21), .lit (.int .u8 19), .lit (.int .u8 16), .lit (.int .u8 7), .lit (.int .u8 26), .lit (.int .u8 12), .lit (.int .u8 18), .lit (.int .u8 6), .lit (.int .u8 11), .lit (.int .u8 5), .lit (.int .u8 10), .lit (.int .u8 9)]
def laid_math_bits_deBruijn64tab {H : Type} : DataW H := .agg [.lit (.int .u8 0), .lit (.int .u8 1), .lit (.int .u8 56), .lit (.int .u8 2), .lit (.int .u8 57), .lit (.int .u8 49), .lit (.int .u8 28), .lit (.int .u8 3), .lit (.int .u8 61), .lit (.int .u8 58), .lit (.int .u8 42), .lit (.int .u8 50), .lit (.int .u8 38), .lit (.int .u8 29), .lit (.int .u8 17), .lit (.int .u8 4), .lit (.int .u8 62), .lit (.int .u8 47), .lit (.int .u8 59), .lit (.int .u8 36), .lit (.int .u8 45), .lit (.int .u8 43), .lit (.int .u8 51), .lit (.int .u8 22), .lit (.int .u8 53), .lit (.int .u8 39), .lit (.int .u8 33), .lit (.int .u8 30), .lit (.int .u8 24), .lit (.int .u8 18), .lit (.int .u8 12), .lit (.int .u8 5), .lit (.int .u8 63), .lit (.int .u8 55), .lit (.int .u8 48), .lit (.int .u8 27), .lit (.int .u8 60), .lit (.int .u8 41), .lit (.int .u8 37), .lit (.int .u8 16), .lit (.int .u8 46), .lit (.int .u8 35), .lit (.int .u8 44), .lit (.int .u8 21), .lit (.int .u8 52), .lit (.int .u8 32), .lit (.int .u8 23), .lit (.int .u8 11), .lit (.int .u8 54), .lit (.int .u8 26), .lit (.int .u8 40), .lit (.int .u8 15), .lit (.int .u8 34), .lit (.int .u8 20), .lit (.int .u8 31), .lit (.int .u8 10), .lit (.int .u8 25), .lit (.int .u8 14), .lit (.int .u8 19), .lit (.int .u8 9), .lit (.int .u8 13), .lit (.int .u8 8), .lit (.int .u8 7), .lit (.int .u8 6)]

/-- 'laws.FnPatternOk': WHATEVER THE INPUT: true; the input reads as it did. -/
def fnPatternOkSpec : ChangeSpec := { name := "fnPatternOk", fn := fun _ => fun
  | [d1, d2] => { results := [.lit (.bool true)], args := [d1, d2] }
  | _ => none }
def fnPatternOkRow : OpenClaim := { program := "ytcbgihjoopjmeaadoor", sum := "7f13879aa59b7d361cc842322b6998e08e72fff13b8c5bc332cb042f4ed1b965", func := "loop.example/disclosurecontrol/laws.FnPatternOk", spec := "fnPatternOk", unfollowed := true, recurses := true, named := ["math/bits.deBruijn32tab", "math/bits.deBruijn64tab"], apart := false, laid := [("math/bits.deBruijn32tab", laid_math_bits_deBruijn32tab), ("math/bits.deBruijn64tab", laid_math_bits_deBruijn64tab)] }
def FnPatternOkSaid : Prop := fnPatternOkRow.holds Tryd.pinned (OpenSpec.ofChange fnPatternOkSpec)

/-- ITS FALSE NEIGHBOUR: 'it returns false'. Refute it at one input. -/
def fnPatternOkWrong : ChangeSpec := { name := "fnPatternOk", fn := fun _ => fun
  | [d1, d2] => { results := [.lit (.bool false)], args := [d1, d2] }
  | _ => none }
def FnPatternOkWrongFalsely : Prop := fnPatternOkRow.holds Tryd.pinned (OpenSpec.ofChange fnPatternOkWrong)

/-- 'laws.FnPatternNeed': WHATEVER THE INPUT: true; the input reads as it did. -/
def fnPatternNeedSpec : ChangeSpec := { name := "fnPatternNeed", fn := fun _ => fun
  | [d] => { results := [.lit (.bool true)], args := [d] }
  | _ => none }
def fnPatternNeedRow : OpenClaim := { program := "ytcbgihjoopjmeaadoor", sum := "7f13879aa59b7d361cc842322b6998e08e72fff13b8c5bc332cb042f4ed1b965", func := "loop.example/disclosurecontrol/laws.FnPatternNeed", spec := "fnPatternNeed", unfollowed := true, recurses := true, named := ["math/bits.deBruijn32tab", "math/bits.deBruijn64tab"], apart := false, laid := [("math/bits.deBruijn32tab", laid_math_bits_deBruijn32tab), ("math/bits.deBruijn64tab", laid_math_bits_deBruijn64tab)] }
def FnPatternNeedSaid : Prop := fnPatternNeedRow.holds Tryd.pinned (OpenSpec.ofChange fnPatternNeedSpec)

/-- ITS FALSE NEIGHBOUR: 'it returns false'. Refute it at one input. -/
def fnPatternNeedWrong : ChangeSpec := { name := "fnPatternNeed", fn := fun _ => fun
  | [d] => { results := [.lit (.bool false)], args := [d] }
  | _ => none }
def FnPatternNeedWrongFalsely : Prop := fnPatternNeedRow.holds Tryd.pinned (OpenSpec.ofChange fnPatternNeedWrong)

/-- 'laws.FnPatternOkTurn': WHATEVER THE INPUT: true; the input reads as it did. -/
def fnPatternOkTurnSpec : ChangeSpec := { name := "fnPatternOkTurn", fn := fun _ => fun
  | [d1, d2] => { results := [.lit (.bool true)], args := [d1, d2] }
  | _ => none }
def fnPatternOkTurnRow : OpenClaim := { program := "ytcbgihjoopjmeaadoor", sum := "7f13879aa59b7d361cc842322b6998e08e72fff13b8c5bc332cb042f4ed1b965", func := "loop.example/disclosurecontrol/laws.FnPatternOkTurn", spec := "fnPatternOkTurn", unfollowed := true, recurses := true, named := ["math/bits.deBruijn32tab", "math/bits.deBruijn64tab"], apart := false, laid := [("math/bits.deBruijn32tab", laid_math_bits_deBruijn32tab), ("math/bits.deBruijn64tab", laid_math_bits_deBruijn64tab)] }
def FnPatternOkTurnSaid : Prop := fnPatternOkTurnRow.holds Tryd.pinned (OpenSpec.ofChange fnPatternOkTurnSpec)

/-- ITS FALSE NEIGHBOUR: 'it returns false'. Refute it at one input. -/
def fnPatternOkTurnWrong : ChangeSpec := { name := "fnPatternOkTurn", fn := fun _ => fun
  | [d1, d2] => { results := [.lit (.bool false)], args := [d1, d2] }
  | _ => none }
def FnPatternOkTurnWrongFalsely : Prop := fnPatternOkTurnRow.holds Tryd.pinned (OpenSpec.ofChange fnPatternOkTurnWrong)

/-- 'laws.FnPatternNeedMore': WHATEVER THE INPUT: true; the input reads as it did. -/
def fnPatternNeedMoreSpec : ChangeSpec := { name := "fnPatternNeedMore", fn := fun _ => fun
  | [d1, d2] => { results := [.lit (.bool true)], args := [d1, d2] }
  | _ => none }
def fnPatternNeedMoreRow : OpenClaim := { program := "ytcbgihjoopjmeaadoor", sum := "7f13879aa59b7d361cc842322b6998e08e72fff13b8c5bc332cb042f4ed1b965", func := "loop.example/disclosurecontrol/laws.FnPatternNeedMore", spec := "fnPatternNeedMore", unfollowed := true, recurses := true, named := ["math/bits.deBruijn32tab", "math/bits.deBruijn64tab"], apart := false, laid := [("math/bits.deBruijn32tab", laid_math_bits_deBruijn32tab), ("math/bits.deBruijn64tab", laid_math_bits_deBruijn64tab)] }
def FnPatternNeedMoreSaid : Prop := fnPatternNeedMoreRow.holds Tryd.pinned (OpenSpec.ofChange fnPatternNeedMoreSpec)

/-- ITS FALSE NEIGHBOUR: 'it returns false'. Refute it at one input. -/
def fnPatternNeedMoreWrong : ChangeSpec := { name := "fnPatternNeedMore", fn := fun _ => fun
  | [d1, d2] => { results := [.lit (.bool false)], args := [d1, d2] }
  | _ => none }
def FnPatternNeedMoreWrongFalsely : Prop := fnPatternNeedMoreRow.holds Tryd.pinned (OpenSpec.ofChange fnPatternNeedMoreWrong)

/-- 'laws.FnPatternOkSmall': WHATEVER THE INPUT: true; the input reads as it did. -/
def fnPatternOkSmallSpec : ChangeSpec := { name := "fnPatternOkSmall", fn := fun _ => fun
  | [d] => { results := [.lit (.bool true)], args := [d] }
  | _ => none }
def fnPatternOkSmallRow : OpenClaim := { program := "ytcbgihjoopjmeaadoor", sum := "7f13879aa59b7d361cc842322b6998e08e72fff13b8c5bc332cb042f4ed1b965", func := "loop.example/disclosurecontrol/laws.FnPatternOkSmall", spec := "fnPatternOkSmall", unfollowed := true, recurses := true, named := ["math/bits.deBruijn32tab", "math/bits.deBruijn64tab"], apart := false, laid := [("math/bits.deBruijn32tab", laid_math_bits_deBruijn32tab), ("math/bits.deBruijn64tab", laid_math_bits_deBruijn64tab)] }
def FnPatternOkSmallSaid : Prop := fnPatternOkSmallRow.holds Tryd.pinned (OpenSpec.ofChange fnPatternOkSmallSpec)

/-- ITS FALSE NEIGHBOUR: 'it returns false'. Refute it at one input. -/
def fnPatternOkSmallWrong : ChangeSpec := { name := "fnPatternOkSmall", fn := fun _ => fun
  | [d] => { results := [.lit (.bool false)], args := [d] }
  | _ => none }
def FnPatternOkSmallWrongFalsely : Prop := fnPatternOkSmallRow.holds Tryd.pinned (OpenSpec.ofChange fnPatternOkSmallWrong)

/-- 'laws.FnPatternNeedNone': WHATEVER THE INPUT: true; the input reads as it did. -/
def fnPatternNeedNoneSpec : ChangeSpec := { name := "fnPatternNeedNone", fn := fun _ => fun
  | [d] => { results := [.lit (.bool true)], args := [d] }
  | _ => none }
def fnPatternNeedNoneRow : OpenClaim := { program := "ytcbgihjoopjmeaadoor", sum := "7f13879aa59b7d361cc842322b6998e08e72fff13b8c5bc332cb042f4ed1b965", func := "loop.example/disclosurecontrol/laws.FnPatternNeedNone", spec := "fnPatternNeedNone", unfollowed := true, recurses := true, named := ["math/bits.deBruijn32tab", "math/bits.deBruijn64tab"], apart := false, laid := [("math/bits.deBruijn32tab", laid_math_bits_deBruijn32tab), ("math/bits.deBruijn64tab", laid_math_bits_deBruijn64tab)] }
def FnPatternNeedNoneSaid : Prop := fnPatternNeedNoneRow.holds Tryd.pinned (OpenSpec.ofChange fnPatternNeedNoneSpec)

/-- ITS FALSE NEIGHBOUR: 'it returns false'. Refute it at one input. -/
def fnPatternNeedNoneWrong : ChangeSpec := { name := "fnPatternNeedNone", fn := fun _ => fun
  | [d] => { results := [.lit (.bool false)], args := [d] }
  | _ => none }
def FnPatternNeedNoneWrongFalsely : Prop := fnPatternNeedNoneRow.holds Tryd.pinned (OpenSpec.ofChange fnPatternNeedNoneWrong)

/-- 'laws.FnExactPatternSafe': WHATEVER THE INPUT: true; the input reads as it did. -/
def fnExactPatternSafeSpec : ChangeSpec := { name := "fnExactPatternSafe", fn := fun _ => fun
  | [d1, d2, d3, d4, d5] => { results := [.lit (.bool true)], args := [d1, d2, d3, d4, d5] }
  | _ => none }
def fnExactPatternSafeRow : OpenClaim := { program := "ytcbgihjoopjmeaadoor", sum := "7f13879aa59b7d361cc842322b6998e08e72fff13b8c5bc332cb042f4ed1b965", func := "loop.example/disclosurecontrol/laws.FnExactPatternSafe", spec := "fnExactPatternSafe", unfollowed := true, recurses := true, named := ["math/bits.deBruijn32tab", "math/bits.deBruijn64tab"], apart := false, laid := [("math/bits.deBruijn32tab", laid_math_bits_deBruijn32tab), ("math/bits.deBruijn64tab", laid_math_bits_deBruijn64tab)] }
def FnExactPatternSafeSaid : Prop := fnExactPatternSafeRow.holds Tryd.pinned (OpenSpec.ofChange fnExactPatternSafeSpec)

/-- ITS FALSE NEIGHBOUR: 'it returns false'. Refute it at one input. -/
def fnExactPatternSafeWrong : ChangeSpec := { name := "fnExactPatternSafe", fn := fun _ => fun
  | [d1, d2, d3, d4, d5] => { results := [.lit (.bool false)], args := [d1, d2, d3, d4, d5] }
  | _ => none }
def FnExactPatternSafeWrongFalsely : Prop := fnExactPatternSafeRow.holds Tryd.pinned (OpenSpec.ofChange fnExactPatternSafeWrong)

/-- 'laws.FnExactPatternNeed': WHATEVER THE INPUT: true; the input reads as it did. -/
def fnExactPatternNeedSpec : ChangeSpec := { name := "fnExactPatternNeed", fn := fun _ => fun
  | [d1, d2, d3, d4] => { results := [.lit (.bool true)], args := [d1, d2, d3, d4] }
  | _ => none }
def fnExactPatternNeedRow : OpenClaim := { program := "ytcbgihjoopjmeaadoor", sum := "7f13879aa59b7d361cc842322b6998e08e72fff13b8c5bc332cb042f4ed1b965", func := "loop.example/disclosurecontrol/laws.FnExactPatternNeed", spec := "fnExactPatternNeed", unfollowed := true, recurses := true, named := ["math/bits.deBruijn32tab", "math/bits.deBruijn64tab"], apart := false, laid := [("math/bits.deBruijn32tab", laid_math_bits_deBruijn32tab), ("math/bits.deBruijn64tab", laid_math_bits_deBruijn64tab)] }
def FnExactPatternNeedSaid : Prop := fnExactPatternNeedRow.holds Tryd.pinned (OpenSpec.ofChange fnExactPatternNeedSpec)

/-- ITS FALSE NEIGHBOUR: 'it returns false'. Refute it at one input. -/
def fnExactPatternNeedWrong : ChangeSpec := { name := "fnExactPatternNeed", fn := fun _ => fun
  | [d1, d2, d3, d4] => { results := [.lit (.bool false)], args := [d1, d2, d3, d4] }
  | _ => none }
def FnExactPatternNeedWrongFalsely : Prop := fnExactPatternNeedRow.holds Tryd.pinned (OpenSpec.ofChange fnExactPatternNeedWrong)

/-- 'laws.FnExactPatternOk': WHATEVER THE INPUT: true; the input reads as it did. -/
def fnExactPatternOkSpec : ChangeSpec := { name := "fnExactPatternOk", fn := fun _ => fun
  | [d1, d2, d3, d4] => { results := [.lit (.bool true)], args := [d1, d2, d3, d4] }
  | _ => none }
def fnExactPatternOkRow : OpenClaim := { program := "ytcbgihjoopjmeaadoor", sum := "7f13879aa59b7d361cc842322b6998e08e72fff13b8c5bc332cb042f4ed1b965", func := "loop.example/disclosurecontrol/laws.FnExactPatternOk", spec := "fnExactPatternOk", unfollowed := true, recurses := true, named := ["math/bits.deBruijn32tab", "math/bits.deBruijn64tab"], apart := false, laid := [("math/bits.deBruijn32tab", laid_math_bits_deBruijn32tab), ("math/bits.deBruijn64tab", laid_math_bits_deBruijn64tab)] }
def FnExactPatternOkSaid : Prop := fnExactPatternOkRow.holds Tryd.pinned (OpenSpec.ofChange fnExactPatternOkSpec)

/-- ITS FALSE NEIGHBOUR: 'it returns false'. Refute it at one input. -/
def fnExactPatternOkWrong : ChangeSpec := { name := "fnExactPatternOk", fn := fun _ => fun
  | [d1, d2, d3, d4] => { results := [.lit (.bool false)], args := [d1, d2, d3, d4] }
  | _ => none }
def FnExactPatternOkWrongFalsely : Prop := fnExactPatternOkRow.holds Tryd.pinned (OpenSpec.ofChange fnExactPatternOkWrong)

/-- 'laws.FnExactPatternCost': WHATEVER THE INPUT: true; the input reads as it did. -/
def fnExactPatternCostSpec : ChangeSpec := { name := "fnExactPatternCost", fn := fun _ => fun
  | [d1, d2] => { results := [.lit (.bool true)], args := [d1, d2] }
  | _ => none }
def fnExactPatternCostRow : OpenClaim := { program := "ytcbgihjoopjmeaadoor", sum := "7f13879aa59b7d361cc842322b6998e08e72fff13b8c5bc332cb042f4ed1b965", func := "loop.example/disclosurecontrol/laws.FnExactPatternCost", spec := "fnExactPatternCost", unfollowed := true, recurses := true, named := ["math/bits.deBruijn32tab", "math/bits.deBruijn64tab"], apart := false, laid := [("math/bits.deBruijn32tab", laid_math_bits_deBruijn32tab), ("math/bits.deBruijn64tab", laid_math_bits_deBruijn64tab)] }
def FnExactPatternCostSaid : Prop := fnExactPatternCostRow.holds Tryd.pinned (OpenSpec.ofChange fnExactPatternCostSpec)

/-- ITS FALSE NEIGHBOUR: 'it returns false'. Refute it at one input. -/
def fnExactPatternCostWrong : ChangeSpec := { name := "fnExactPatternCost", fn := fun _ => fun
  | [d1, d2] => { results := [.lit (.bool false)], args := [d1, d2] }
  | _ => none }
def FnExactPatternCostWrongFalsely : Prop := fnExactPatternCostRow.holds Tryd.pinned (OpenSpec.ofChange fnExactPatternCostWrong)

/- THE SECOND FORM. 'bulk': how many values and letters a reading holds, each counted each time it is reached (what is shared counts as often as it is met; a slice's spare places count too). A statement '..UptoSaid' is the law's where the arguments, and the package variables that the reading takes, are together of bulk at most 1048576: NARROWER than '..Said'. Prove '..Said' where nothing that the law and all that it calls make is longer than what came in: it says more and counts as full. Else prove '..UptoSaid'. A law counts once. -/
mutual
def uptoBulk {H : Type} : DataW H → Nat
  | .lit (.string bytes) => bytes.length + 1
  | .lit _ => 1
  | .nil => 1
  | .ptr d => uptoBulk d + 1
  | .slice elems spare => uptoBulkAll elems + uptoBulkAll spare + 1
  | .agg parts => uptoBulkAll parts + 1
  | .iface _ d => uptoBulk d + 1
  | .map entries => uptoBulkEntries entries + 1
  | .held _ => 1
def uptoBulkAll {H : Type} : List (DataW H) → Nat
  | [] => 0
  | d :: r => uptoBulk d + uptoBulkAll r
def uptoBulkEntries {H : Type} : List (Lit × DataW H) → Nat
  | [] => 0
  | x :: r => uptoBulkEntry x + uptoBulkEntries r
def uptoBulkEntry {H : Type} : Lit × DataW H → Nat
  | (.string bytes, d) => bytes.length + uptoBulk d + 1
  | (_, d) => uptoBulk d + 1
 end
def uptoSmall : (H : Type) → List (DataW H) → Bool := fun _ ds => decide (uptoBulkAll ds ≤ 1048576)
def OpenSpec.upto (s : _root_.Go.ChangeSpec) : _root_.Go.OpenSpec := { _root_.Go.OpenSpec.ofChange s with cond := some uptoSmall }

/-- 'laws.FnPatternOk', WHERE WHAT IT READS IS OF BULK AT MOST 1048576: true; the input reads as it did. -/
def fnPatternOkUptoRow : OpenClaim := { program := "ytcbgihjoopjmeaadoor", sum := "7f13879aa59b7d361cc842322b6998e08e72fff13b8c5bc332cb042f4ed1b965", func := "loop.example/disclosurecontrol/laws.FnPatternOk", spec := "fnPatternOk", unfollowed := true, recurses := true, named := ["math/bits.deBruijn32tab", "math/bits.deBruijn64tab"], apart := false, laid := [("math/bits.deBruijn32tab", laid_math_bits_deBruijn32tab), ("math/bits.deBruijn64tab", laid_math_bits_deBruijn64tab)], narrowed := true }
def FnPatternOkUptoSaid : Prop := fnPatternOkUptoRow.holds Tryd.pinned (OpenSpec.upto fnPatternOkSpec)

/-- 'laws.FnPatternNeed', WHERE WHAT IT READS IS OF BULK AT MOST 1048576: true; the input reads as it did. -/
def fnPatternNeedUptoRow : OpenClaim := { program := "ytcbgihjoopjmeaadoor", sum := "7f13879aa59b7d361cc842322b6998e08e72fff13b8c5bc332cb042f4ed1b965", func := "loop.example/disclosurecontrol/laws.FnPatternNeed", spec := "fnPatternNeed", unfollowed := true, recurses := true, named := ["math/bits.deBruijn32tab", "math/bits.deBruijn64tab"], apart := false, laid := [("math/bits.deBruijn32tab", laid_math_bits_deBruijn32tab), ("math/bits.deBruijn64tab", laid_math_bits_deBruijn64tab)], narrowed := true }
def FnPatternNeedUptoSaid : Prop := fnPatternNeedUptoRow.holds Tryd.pinned (OpenSpec.upto fnPatternNeedSpec)

/-- 'laws.FnPatternOkTurn', WHERE WHAT IT READS IS OF BULK AT MOST 1048576: true; the input reads as it did. -/
def fnPatternOkTurnUptoRow : OpenClaim := { program := "ytcbgihjoopjmeaadoor", sum := "7f13879aa59b7d361cc842322b6998e08e72fff13b8c5bc332cb042f4ed1b965", func := "loop.example/disclosurecontrol/laws.FnPatternOkTurn", spec := "fnPatternOkTurn", unfollowed := true, recurses := true, named := ["math/bits.deBruijn32tab", "math/bits.deBruijn64tab"], apart := false, laid := [("math/bits.deBruijn32tab", laid_math_bits_deBruijn32tab), ("math/bits.deBruijn64tab", laid_math_bits_deBruijn64tab)], narrowed := true }
def FnPatternOkTurnUptoSaid : Prop := fnPatternOkTurnUptoRow.holds Tryd.pinned (OpenSpec.upto fnPatternOkTurnSpec)

/-- 'laws.FnPatternNeedMore', WHERE WHAT IT READS IS OF BULK AT MOST 1048576: true; the input reads as it did. -/
def fnPatternNeedMoreUptoRow : OpenClaim := { program := "ytcbgihjoopjmeaadoor", sum := "7f13879aa59b7d361cc842322b6998e08e72fff13b8c5bc332cb042f4ed1b965", func := "loop.example/disclosurecontrol/laws.FnPatternNeedMore", spec := "fnPatternNeedMore", unfollowed := true, recurses := true, named := ["math/bits.deBruijn32tab", "math/bits.deBruijn64tab"], apart := false, laid := [("math/bits.deBruijn32tab", laid_math_bits_deBruijn32tab), ("math/bits.deBruijn64tab", laid_math_bits_deBruijn64tab)], narrowed := true }
def FnPatternNeedMoreUptoSaid : Prop := fnPatternNeedMoreUptoRow.holds Tryd.pinned (OpenSpec.upto fnPatternNeedMoreSpec)

/-- 'laws.FnPatternOkSmall', WHERE WHAT IT READS IS OF BULK AT MOST 1048576: true; the input reads as it did. -/
def fnPatternOkSmallUptoRow : OpenClaim := { program := "ytcbgihjoopjmeaadoor", sum := "7f13879aa59b7d361cc842322b6998e08e72fff13b8c5bc332cb042f4ed1b965", func := "loop.example/disclosurecontrol/laws.FnPatternOkSmall", spec := "fnPatternOkSmall", unfollowed := true, recurses := true, named := ["math/bits.deBruijn32tab", "math/bits.deBruijn64tab"], apart := false, laid := [("math/bits.deBruijn32tab", laid_math_bits_deBruijn32tab), ("math/bits.deBruijn64tab", laid_math_bits_deBruijn64tab)], narrowed := true }
def FnPatternOkSmallUptoSaid : Prop := fnPatternOkSmallUptoRow.holds Tryd.pinned (OpenSpec.upto fnPatternOkSmallSpec)

/-- 'laws.FnPatternNeedNone', WHERE WHAT IT READS IS OF BULK AT MOST 1048576: true; the input reads as it did. -/
def fnPatternNeedNoneUptoRow : OpenClaim := { program := "ytcbgihjoopjmeaadoor", sum := "7f13879aa59b7d361cc842322b6998e08e72fff13b8c5bc332cb042f4ed1b965", func := "loop.example/disclosurecontrol/laws.FnPatternNeedNone", spec := "fnPatternNeedNone", unfollowed := true, recurses := true, named := ["math/bits.deBruijn32tab", "math/bits.deBruijn64tab"], apart := false, laid := [("math/bits.deBruijn32tab", laid_math_bits_deBruijn32tab), ("math/bits.deBruijn64tab", laid_math_bits_deBruijn64tab)], narrowed := true }
def FnPatternNeedNoneUptoSaid : Prop := fnPatternNeedNoneUptoRow.holds Tryd.pinned (OpenSpec.upto fnPatternNeedNoneSpec)

/-- 'laws.FnExactPatternSafe', WHERE WHAT IT READS IS OF BULK AT MOST 1048576: true; the input reads as it did. -/
def fnExactPatternSafeUptoRow : OpenClaim := { program := "ytcbgihjoopjmeaadoor", sum := "7f13879aa59b7d361cc842322b6998e08e72fff13b8c5bc332cb042f4ed1b965", func := "loop.example/disclosurecontrol/laws.FnExactPatternSafe", spec := "fnExactPatternSafe", unfollowed := true, recurses := true, named := ["math/bits.deBruijn32tab", "math/bits.deBruijn64tab"], apart := false, laid := [("math/bits.deBruijn32tab", laid_math_bits_deBruijn32tab), ("math/bits.deBruijn64tab", laid_math_bits_deBruijn64tab)], narrowed := true }
def FnExactPatternSafeUptoSaid : Prop := fnExactPatternSafeUptoRow.holds Tryd.pinned (OpenSpec.upto fnExactPatternSafeSpec)

/-- 'laws.FnExactPatternNeed', WHERE WHAT IT READS IS OF BULK AT MOST 1048576: true; the input reads as it did. -/
def fnExactPatternNeedUptoRow : OpenClaim := { program := "ytcbgihjoopjmeaadoor", sum := "7f13879aa59b7d361cc842322b6998e08e72fff13b8c5bc332cb042f4ed1b965", func := "loop.example/disclosurecontrol/laws.FnExactPatternNeed", spec := "fnExactPatternNeed", unfollowed := true, recurses := true, named := ["math/bits.deBruijn32tab", "math/bits.deBruijn64tab"], apart := false, laid := [("math/bits.deBruijn32tab", laid_math_bits_deBruijn32tab), ("math/bits.deBruijn64tab", laid_math_bits_deBruijn64tab)], narrowed := true }
def FnExactPatternNeedUptoSaid : Prop := fnExactPatternNeedUptoRow.holds Tryd.pinned (OpenSpec.upto fnExactPatternNeedSpec)

/-- 'laws.FnExactPatternOk', WHERE WHAT IT READS IS OF BULK AT MOST 1048576: true; the input reads as it did. -/
def fnExactPatternOkUptoRow : OpenClaim := { program := "ytcbgihjoopjmeaadoor", sum := "7f13879aa59b7d361cc842322b6998e08e72fff13b8c5bc332cb042f4ed1b965", func := "loop.example/disclosurecontrol/laws.FnExactPatternOk", spec := "fnExactPatternOk", unfollowed := true, recurses := true, named := ["math/bits.deBruijn32tab", "math/bits.deBruijn64tab"], apart := false, laid := [("math/bits.deBruijn32tab", laid_math_bits_deBruijn32tab), ("math/bits.deBruijn64tab", laid_math_bits_deBruijn64tab)], narrowed := true }
def FnExactPatternOkUptoSaid : Prop := fnExactPatternOkUptoRow.holds Tryd.pinned (OpenSpec.upto fnExactPatternOkSpec)

/-- 'laws.FnExactPatternCost', WHERE WHAT IT READS IS OF BULK AT MOST 1048576: true; the input reads as it did. -/
def fnExactPatternCostUptoRow : OpenClaim := { program := "ytcbgihjoopjmeaadoor", sum := "7f13879aa59b7d361cc842322b6998e08e72fff13b8c5bc332cb042f4ed1b965", func := "loop.example/disclosurecontrol/laws.FnExactPatternCost", spec := "fnExactPatternCost", unfollowed := true, recurses := true, named := ["math/bits.deBruijn32tab", "math/bits.deBruijn64tab"], apart := false, laid := [("math/bits.deBruijn32tab", laid_math_bits_deBruijn32tab), ("math/bits.deBruijn64tab", laid_math_bits_deBruijn64tab)], narrowed := true }
def FnExactPatternCostUptoSaid : Prop := fnExactPatternCostUptoRow.holds Tryd.pinned (OpenSpec.upto fnExactPatternCostSpec)

end Rows
end Go.Proofs.YtcbgihjoopjmeaaDoor
