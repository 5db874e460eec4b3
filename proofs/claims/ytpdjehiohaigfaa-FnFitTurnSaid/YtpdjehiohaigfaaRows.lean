/-
  No cell of these rows narrows 'for every input' (looked for: loops, veiled, ifaces, maps, wideKeys, modest, calm, conditions, laid).
  DERIVED. THE GIVEN ROWS OF THIS SEAT. 11 by the template 'for every input the law returns true; each argument reads behind the call as it read before'; 0 by the template 'total and deterministic' (their statements: YtpdjehiohaigfaaTotals.lean).
  GIVEN WITH THE SEED: the statements are not yours to turn. If you find one false, say at which input.
  Laid BY PROGRAM, IN A SANDBOX (cutbox-rows.mjs): the forced cells as the released guide's own fill.sh prints them over the translation a42587a604c0ff2d… (all of the seat's roots in one cut). By AI agents, Wed Nov 11 2026. No macro, syntax, notation, axiom, sorry.
-/
import Derived.Test.YtpdjehiohaigfaaChecked
import GoSem.Claim
import GoSem.ClaimJoined
import GoSem.ClaimMapViews
import Derived.JoinedTies
import Derived.KernelRfl
namespace Go.Proofs.Ytpdjehiohaigfaa
/- THE CELL 'sum', in the pinned program and in every row, IS THE sha256 OF THE DUMP (.gsa) THAT YtpdjehiohaigfaaProg.lean LOADS. Nothing in Lean hashes anything: it is a label: what it is worth is what the hold of that sum in a sandbox is worth. -/
noncomputable def Try.pinned : Pinned := { name := "ytpdjehiohaigfaa", sum := "a42587a604c0ff2df0ca57487467f56b921720241b970fc39c4fde81f3a81269", checked := Try.checked }
namespace Rows
def none {H : Type} : Left H := { results := [], args := [] }

/-- 'laws.FnHighTurn': WHATEVER THE INPUT: true; the input reads as it did. -/
def fnHighTurnSpec : ChangeSpec := { name := "fnHighTurn", fn := fun _ => fun
  | [d] => { results := [.lit (.bool true)], args := [d] }
  | _ => none }
def fnHighTurnRow : OpenClaim := { program := "ytpdjehiohaigfaa", sum := "a42587a604c0ff2df0ca57487467f56b921720241b970fc39c4fde81f3a81269", func := "loop.example/disclosurecontrol/laws.FnHighTurn", spec := "fnHighTurn", unfollowed := true, recurses := true, apart := false }
def FnHighTurnSaid : Prop := fnHighTurnRow.holds Try.pinned (OpenSpec.ofChange fnHighTurnSpec)

/-- ITS FALSE NEIGHBOUR: 'it returns false'. Refute it at one input. -/
def fnHighTurnWrong : ChangeSpec := { name := "fnHighTurn", fn := fun _ => fun
  | [d] => { results := [.lit (.bool false)], args := [d] }
  | _ => none }
def FnHighTurnWrongFalsely : Prop := fnHighTurnRow.holds Try.pinned (OpenSpec.ofChange fnHighTurnWrong)

/-- 'laws.FnBoundMany': WHATEVER THE INPUT: true; the input reads as it did. -/
def fnBoundManySpec : ChangeSpec := { name := "fnBoundMany", fn := fun _ => fun
  | [d] => { results := [.lit (.bool true)], args := [d] }
  | _ => none }
def fnBoundManyRow : OpenClaim := { program := "ytpdjehiohaigfaa", sum := "a42587a604c0ff2df0ca57487467f56b921720241b970fc39c4fde81f3a81269", func := "loop.example/disclosurecontrol/laws.FnBoundMany", spec := "fnBoundMany", unfollowed := true, recurses := true, apart := false }
def FnBoundManySaid : Prop := fnBoundManyRow.holds Try.pinned (OpenSpec.ofChange fnBoundManySpec)

/-- ITS FALSE NEIGHBOUR: 'it returns false'. Refute it at one input. -/
def fnBoundManyWrong : ChangeSpec := { name := "fnBoundMany", fn := fun _ => fun
  | [d] => { results := [.lit (.bool false)], args := [d] }
  | _ => none }
def FnBoundManyWrongFalsely : Prop := fnBoundManyRow.holds Try.pinned (OpenSpec.ofChange fnBoundManyWrong)

/-- 'laws.FnHighTwice': WHATEVER THE INPUT: true; the input reads as it did. -/
def fnHighTwiceSpec : ChangeSpec := { name := "fnHighTwice", fn := fun _ => fun
  | [d] => { results := [.lit (.bool true)], args := [d] }
  | _ => none }
def fnHighTwiceRow : OpenClaim := { program := "ytpdjehiohaigfaa", sum := "a42587a604c0ff2df0ca57487467f56b921720241b970fc39c4fde81f3a81269", func := "loop.example/disclosurecontrol/laws.FnHighTwice", spec := "fnHighTwice", unfollowed := true, recurses := true, apart := false }
def FnHighTwiceSaid : Prop := fnHighTwiceRow.holds Try.pinned (OpenSpec.ofChange fnHighTwiceSpec)

/-- ITS FALSE NEIGHBOUR: 'it returns false'. Refute it at one input. -/
def fnHighTwiceWrong : ChangeSpec := { name := "fnHighTwice", fn := fun _ => fun
  | [d] => { results := [.lit (.bool false)], args := [d] }
  | _ => none }
def FnHighTwiceWrongFalsely : Prop := fnHighTwiceRow.holds Try.pinned (OpenSpec.ofChange fnHighTwiceWrong)

/-- 'laws.FnHighOrder': WHATEVER THE INPUT: true; the input reads as it did. -/
def fnHighOrderSpec : ChangeSpec := { name := "fnHighOrder", fn := fun _ => fun
  | [d] => { results := [.lit (.bool true)], args := [d] }
  | _ => none }
def fnHighOrderRow : OpenClaim := { program := "ytpdjehiohaigfaa", sum := "a42587a604c0ff2df0ca57487467f56b921720241b970fc39c4fde81f3a81269", func := "loop.example/disclosurecontrol/laws.FnHighOrder", spec := "fnHighOrder", unfollowed := true, recurses := true, apart := false }
def FnHighOrderSaid : Prop := fnHighOrderRow.holds Try.pinned (OpenSpec.ofChange fnHighOrderSpec)

/-- ITS FALSE NEIGHBOUR: 'it returns false'. Refute it at one input. -/
def fnHighOrderWrong : ChangeSpec := { name := "fnHighOrder", fn := fun _ => fun
  | [d] => { results := [.lit (.bool false)], args := [d] }
  | _ => none }
def FnHighOrderWrongFalsely : Prop := fnHighOrderRow.holds Try.pinned (OpenSpec.ofChange fnHighOrderWrong)

/-- 'laws.FnFitTurn': WHATEVER THE INPUT: true; the input reads as it did. -/
def fnFitTurnSpec : ChangeSpec := { name := "fnFitTurn", fn := fun _ => fun
  | [d] => { results := [.lit (.bool true)], args := [d] }
  | _ => none }
def fnFitTurnRow : OpenClaim := { program := "ytpdjehiohaigfaa", sum := "a42587a604c0ff2df0ca57487467f56b921720241b970fc39c4fde81f3a81269", func := "loop.example/disclosurecontrol/laws.FnFitTurn", spec := "fnFitTurn", unfollowed := true, recurses := true, apart := false }
def FnFitTurnSaid : Prop := fnFitTurnRow.holds Try.pinned (OpenSpec.ofChange fnFitTurnSpec)

/-- ITS FALSE NEIGHBOUR: 'it returns false'. Refute it at one input. -/
def fnFitTurnWrong : ChangeSpec := { name := "fnFitTurn", fn := fun _ => fun
  | [d] => { results := [.lit (.bool false)], args := [d] }
  | _ => none }
def FnFitTurnWrongFalsely : Prop := fnFitTurnRow.holds Try.pinned (OpenSpec.ofChange fnFitTurnWrong)

/-- 'laws.FnFitSwap': WHATEVER THE INPUT: true; the input reads as it did. -/
def fnFitSwapSpec : ChangeSpec := { name := "fnFitSwap", fn := fun _ => fun
  | [d] => { results := [.lit (.bool true)], args := [d] }
  | _ => none }
def fnFitSwapRow : OpenClaim := { program := "ytpdjehiohaigfaa", sum := "a42587a604c0ff2df0ca57487467f56b921720241b970fc39c4fde81f3a81269", func := "loop.example/disclosurecontrol/laws.FnFitSwap", spec := "fnFitSwap", unfollowed := true, recurses := true, apart := false }
def FnFitSwapSaid : Prop := fnFitSwapRow.holds Try.pinned (OpenSpec.ofChange fnFitSwapSpec)

/-- ITS FALSE NEIGHBOUR: 'it returns false'. Refute it at one input. -/
def fnFitSwapWrong : ChangeSpec := { name := "fnFitSwap", fn := fun _ => fun
  | [d] => { results := [.lit (.bool false)], args := [d] }
  | _ => none }
def FnFitSwapWrongFalsely : Prop := fnFitSwapRow.holds Try.pinned (OpenSpec.ofChange fnFitSwapWrong)

/-- 'laws.FnFitOnly': WHATEVER THE INPUT: true; the input reads as it did. -/
def fnFitOnlySpec : ChangeSpec := { name := "fnFitOnly", fn := fun _ => fun
  | [d] => { results := [.lit (.bool true)], args := [d] }
  | _ => none }
def fnFitOnlyRow : OpenClaim := { program := "ytpdjehiohaigfaa", sum := "a42587a604c0ff2df0ca57487467f56b921720241b970fc39c4fde81f3a81269", func := "loop.example/disclosurecontrol/laws.FnFitOnly", spec := "fnFitOnly", unfollowed := true, recurses := true, apart := false }
def FnFitOnlySaid : Prop := fnFitOnlyRow.holds Try.pinned (OpenSpec.ofChange fnFitOnlySpec)

/-- ITS FALSE NEIGHBOUR: 'it returns false'. Refute it at one input. -/
def fnFitOnlyWrong : ChangeSpec := { name := "fnFitOnly", fn := fun _ => fun
  | [d] => { results := [.lit (.bool false)], args := [d] }
  | _ => none }
def FnFitOnlyWrongFalsely : Prop := fnFitOnlyRow.holds Try.pinned (OpenSpec.ofChange fnFitOnlyWrong)

/-- 'laws.FnToldTurn': WHATEVER THE INPUT: true; the input reads as it did. -/
def fnToldTurnSpec : ChangeSpec := { name := "fnToldTurn", fn := fun _ => fun
  | [d] => { results := [.lit (.bool true)], args := [d] }
  | _ => none }
def fnToldTurnRow : OpenClaim := { program := "ytpdjehiohaigfaa", sum := "a42587a604c0ff2df0ca57487467f56b921720241b970fc39c4fde81f3a81269", func := "loop.example/disclosurecontrol/laws.FnToldTurn", spec := "fnToldTurn", unfollowed := true, recurses := true, apart := false }
def FnToldTurnSaid : Prop := fnToldTurnRow.holds Try.pinned (OpenSpec.ofChange fnToldTurnSpec)

/-- ITS FALSE NEIGHBOUR: 'it returns false'. Refute it at one input. -/
def fnToldTurnWrong : ChangeSpec := { name := "fnToldTurn", fn := fun _ => fun
  | [d] => { results := [.lit (.bool false)], args := [d] }
  | _ => none }
def FnToldTurnWrongFalsely : Prop := fnToldTurnRow.holds Try.pinned (OpenSpec.ofChange fnToldTurnWrong)

/-- 'laws.FnBoundShown': WHATEVER THE INPUT: true; the input reads as it did. -/
def fnBoundShownSpec : ChangeSpec := { name := "fnBoundShown", fn := fun _ => fun
  | [d1, d2] => { results := [.lit (.bool true)], args := [d1, d2] }
  | _ => none }
def fnBoundShownRow : OpenClaim := { program := "ytpdjehiohaigfaa", sum := "a42587a604c0ff2df0ca57487467f56b921720241b970fc39c4fde81f3a81269", func := "loop.example/disclosurecontrol/laws.FnBoundShown", spec := "fnBoundShown", unfollowed := true, recurses := true, apart := false }
def FnBoundShownSaid : Prop := fnBoundShownRow.holds Try.pinned (OpenSpec.ofChange fnBoundShownSpec)

/-- ITS FALSE NEIGHBOUR: 'it returns false'. Refute it at one input. -/
def fnBoundShownWrong : ChangeSpec := { name := "fnBoundShown", fn := fun _ => fun
  | [d1, d2] => { results := [.lit (.bool false)], args := [d1, d2] }
  | _ => none }
def FnBoundShownWrongFalsely : Prop := fnBoundShownRow.holds Try.pinned (OpenSpec.ofChange fnBoundShownWrong)

/-- 'laws.FnHighZero': WHATEVER THE INPUT: true; the input reads as it did. -/
def fnHighZeroSpec : ChangeSpec := { name := "fnHighZero", fn := fun _ => fun
  | [d] => { results := [.lit (.bool true)], args := [d] }
  | _ => none }
def fnHighZeroRow : OpenClaim := { program := "ytpdjehiohaigfaa", sum := "a42587a604c0ff2df0ca57487467f56b921720241b970fc39c4fde81f3a81269", func := "loop.example/disclosurecontrol/laws.FnHighZero", spec := "fnHighZero", unfollowed := true, recurses := true, apart := false }
def FnHighZeroSaid : Prop := fnHighZeroRow.holds Try.pinned (OpenSpec.ofChange fnHighZeroSpec)

/-- ITS FALSE NEIGHBOUR: 'it returns false'. Refute it at one input. -/
def fnHighZeroWrong : ChangeSpec := { name := "fnHighZero", fn := fun _ => fun
  | [d] => { results := [.lit (.bool false)], args := [d] }
  | _ => none }
def FnHighZeroWrongFalsely : Prop := fnHighZeroRow.holds Try.pinned (OpenSpec.ofChange fnHighZeroWrong)

/-- 'laws.FnHighStep': WHATEVER THE INPUT: true; the input reads as it did. -/
def fnHighStepSpec : ChangeSpec := { name := "fnHighStep", fn := fun _ => fun
  | [d] => { results := [.lit (.bool true)], args := [d] }
  | _ => none }
def fnHighStepRow : OpenClaim := { program := "ytpdjehiohaigfaa", sum := "a42587a604c0ff2df0ca57487467f56b921720241b970fc39c4fde81f3a81269", func := "loop.example/disclosurecontrol/laws.FnHighStep", spec := "fnHighStep", unfollowed := true, recurses := true, apart := false }
def FnHighStepSaid : Prop := fnHighStepRow.holds Try.pinned (OpenSpec.ofChange fnHighStepSpec)

/-- ITS FALSE NEIGHBOUR: 'it returns false'. Refute it at one input. -/
def fnHighStepWrong : ChangeSpec := { name := "fnHighStep", fn := fun _ => fun
  | [d] => { results := [.lit (.bool false)], args := [d] }
  | _ => none }
def FnHighStepWrongFalsely : Prop := fnHighStepRow.holds Try.pinned (OpenSpec.ofChange fnHighStepWrong)

/- THE SECOND FORM. 'bulk': how many values and letters a reading holds, each counted each time it is reached (what is shared counts as often as it is met; a slice's spare places count too). A statement '..UptoSaid' is the law's where the arguments, and the package variables that the reading takes, are together of bulk at most 1048576: NARROWER than '..Said'. Prove '..Said' where nothing that the law and all that it calls make is longer than what came in: it says more and counts as full. Else prove '..UptoSaid'. A law counts once. -/
mutual
def uptoBulk {H : Type} : DataW H → Nat
  | .lit (.string bytes) => bytes.length + 1
  | .lit _ => 1
  | .nil => 1
  | .ptr d => uptoBulk d + 1
  | .slice elems spare => uptoBulkAll elems + uptoBulkAll spare + 1
  | .agg parts => uptoBulkAll parts + 1
  | .iface _ d => uptoBulk d + 1
  | .map entries => uptoBulkEntries entries + 1
  | .held _ => 1
def uptoBulkAll {H : Type} : List (DataW H) → Nat
  | [] => 0
  | d :: r => uptoBulk d + uptoBulkAll r
def uptoBulkEntries {H : Type} : List (Lit × DataW H) → Nat
  | [] => 0
  | x :: r => uptoBulkEntry x + uptoBulkEntries r
def uptoBulkEntry {H : Type} : Lit × DataW H → Nat
  | (.string bytes, d) => bytes.length + uptoBulk d + 1
  | (_, d) => uptoBulk d + 1
 end
def uptoSmall : (H : Type) → List (DataW H) → Bool := fun _ ds => decide (uptoBulkAll ds ≤ 1048576)
def OpenSpec.upto (s : _root_.Go.ChangeSpec) : _root_.Go.OpenSpec := { _root_.Go.OpenSpec.ofChange s with cond := some uptoSmall }

/-- 'laws.FnHighTurn', WHERE WHAT IT READS IS OF BULK AT MOST 1048576: true; the input reads as it did. -/
def fnHighTurnUptoRow : OpenClaim := { program := "ytpdjehiohaigfaa", sum := "a42587a604c0ff2df0ca57487467f56b921720241b970fc39c4fde81f3a81269", func := "loop.example/disclosurecontrol/laws.FnHighTurn", spec := "fnHighTurn", unfollowed := true, recurses := true, apart := false, narrowed := true }
def FnHighTurnUptoSaid : Prop := fnHighTurnUptoRow.holds Try.pinned (OpenSpec.upto fnHighTurnSpec)

/-- 'laws.FnBoundMany', WHERE WHAT IT READS IS OF BULK AT MOST 1048576: true; the input reads as it did. -/
def fnBoundManyUptoRow : OpenClaim := { program := "ytpdjehiohaigfaa", sum := "a42587a604c0ff2df0ca57487467f56b921720241b970fc39c4fde81f3a81269", func := "loop.example/disclosurecontrol/laws.FnBoundMany", spec := "fnBoundMany", unfollowed := true, recurses := true, apart := false, narrowed := true }
def FnBoundManyUptoSaid : Prop := fnBoundManyUptoRow.holds Try.pinned (OpenSpec.upto fnBoundManySpec)

/-- 'laws.FnHighTwice', WHERE WHAT IT READS IS OF BULK AT MOST 1048576: true; the input reads as it did. -/
def fnHighTwiceUptoRow : OpenClaim := { program := "ytpdjehiohaigfaa", sum := "a42587a604c0ff2df0ca57487467f56b921720241b970fc39c4fde81f3a81269", func := "loop.example/disclosurecontrol/laws.FnHighTwice", spec := "fnHighTwice", unfollowed := true, recurses := true, apart := false, narrowed := true }
def FnHighTwiceUptoSaid : Prop := fnHighTwiceUptoRow.holds Try.pinned (OpenSpec.upto fnHighTwiceSpec)

/-- 'laws.FnHighOrder', WHERE WHAT IT READS IS OF BULK AT MOST 1048576: true; the input reads as it did. -/
def fnHighOrderUptoRow : OpenClaim := { program := "ytpdjehiohaigfaa", sum := "a42587a604c0ff2df0ca57487467f56b921720241b970fc39c4fde81f3a81269", func := "loop.example/disclosurecontrol/laws.FnHighOrder", spec := "fnHighOrder", unfollowed := true, recurses := true, apart := false, narrowed := true }
def FnHighOrderUptoSaid : Prop := fnHighOrderUptoRow.holds Try.pinned (OpenSpec.upto fnHighOrderSpec)

/-- 'laws.FnFitTurn', WHERE WHAT IT READS IS OF BULK AT MOST 1048576: true; the input reads as it did. -/
def fnFitTurnUptoRow : OpenClaim := { program := "ytpdjehiohaigfaa", sum := "a42587a604c0ff2df0ca57487467f56b921720241b970fc39c4fde81f3a81269", func := "loop.example/disclosurecontrol/laws.FnFitTurn", spec := "fnFitTurn", unfollowed := true, recurses := true, apart := false, narrowed := true }
def FnFitTurnUptoSaid : Prop := fnFitTurnUptoRow.holds Try.pinned (OpenSpec.upto fnFitTurnSpec)

/-- 'laws.FnFitSwap', WHERE WHAT IT READS IS OF BULK AT MOST 1048576: true; the input reads as it did. -/
def fnFitSwapUptoRow : OpenClaim := { program := "ytpdjehiohaigfaa", sum := "a42587a604c0ff2df0ca57487467f56b921720241b970fc39c4fde81f3a81269", func := "loop.example/disclosurecontrol/laws.FnFitSwap", spec := "fnFitSwap", unfollowed := true, recurses := true, apart := false, narrowed := true }
def FnFitSwapUptoSaid : Prop := fnFitSwapUptoRow.holds Try.pinned (OpenSpec.upto fnFitSwapSpec)

/-- 'laws.FnFitOnly', WHERE WHAT IT READS IS OF BULK AT MOST 1048576: true; the input reads as it did. -/
def fnFitOnlyUptoRow : OpenClaim := { program := "ytpdjehiohaigfaa", sum := "a42587a604c0ff2df0ca57487467f56b921720241b970fc39c4fde81f3a81269", func := "loop.example/disclosurecontrol/laws.FnFitOnly", spec := "fnFitOnly", unfollowed := true, recurses := true, apart := false, narrowed := true }
def FnFitOnlyUptoSaid : Prop := fnFitOnlyUptoRow.holds Try.pinned (OpenSpec.upto fnFitOnlySpec)

/-- 'laws.FnToldTurn', WHERE WHAT IT READS IS OF BULK AT MOST 1048576: true; the input reads as it did. -/
def fnToldTurnUptoRow : OpenClaim := { program := "ytpdjehiohaigfaa", sum := "a42587a604c0ff2df0ca57487467f56b921720241b970fc39c4fde81f3a81269", func := "loop.example/disclosurecontrol/laws.FnToldTurn", spec := "fnToldTurn", unfollowed := true, recurses := true, apart := false, narrowed := true }
def FnToldTurnUptoSaid : Prop := fnToldTurnUptoRow.holds Try.pinned (OpenSpec.upto fnToldTurnSpec)

/-- 'laws.FnBoundShown', WHERE WHAT IT READS IS OF BULK AT MOST 1048576: true; the input reads as it did. -/
def fnBoundShownUptoRow : OpenClaim := { program := "ytpdjehiohaigfaa", sum := "a42587a604c0ff2df0ca57487467f56b921720241b970fc39c4fde81f3a81269", func := "loop.example/disclosurecontrol/laws.FnBoundShown", spec := "fnBoundShown", unfollowed := true, recurses := true, apart := false, narrowed := true }
def FnBoundShownUptoSaid : Prop := fnBoundShownUptoRow.holds Try.pinned (OpenSpec.upto fnBoundShownSpec)

/-- 'laws.FnHighZero', WHERE WHAT IT READS IS OF BULK AT MOST 1048576: true; the input reads as it did. -/
def fnHighZeroUptoRow : OpenClaim := { program := "ytpdjehiohaigfaa", sum := "a42587a604c0ff2df0ca57487467f56b921720241b970fc39c4fde81f3a81269", func := "loop.example/disclosurecontrol/laws.FnHighZero", spec := "fnHighZero", unfollowed := true, recurses := true, apart := false, narrowed := true }
def FnHighZeroUptoSaid : Prop := fnHighZeroUptoRow.holds Try.pinned (OpenSpec.upto fnHighZeroSpec)

/-- 'laws.FnHighStep', WHERE WHAT IT READS IS OF BULK AT MOST 1048576: true; the input reads as it did. -/
def fnHighStepUptoRow : OpenClaim := { program := "ytpdjehiohaigfaa", sum := "a42587a604c0ff2df0ca57487467f56b921720241b970fc39c4fde81f3a81269", func := "loop.example/disclosurecontrol/laws.FnHighStep", spec := "fnHighStep", unfollowed := true, recurses := true, apart := false, narrowed := true }
def FnHighStepUptoSaid : Prop := fnHighStepUptoRow.holds Try.pinned (OpenSpec.upto fnHighStepSpec)

end Rows
end Go.Proofs.Ytpdjehiohaigfaa
