/-
  No cell of these rows narrows 'for every input' (looked for: loops, veiled, ifaces, maps, wideKeys, modest, calm, conditions, laid).
  DERIVED. THE GIVEN ROWS OF THIS SEAT. 9 by the template 'for every input the law returns true; each argument reads behind the call as it read before'; 0 by the template 'total and deterministic' (their statements: YtmmabdioncgkoaaTotals.lean).
  GIVEN WITH THE SEED: the statements are not yours to turn. If you find one false, say at which input.
  Laid BY PROGRAM, IN A SANDBOX (cutbox-rows.mjs): the forced cells as the released guide's own fill.sh prints them over the translation 165d4e986292bc12… (all of the seat's roots in one cut). By AI agents, Wed Nov 11 2026. No macro, syntax, notation, axiom, sorry.
-/
import Derived.Test.YtmmabdioncgkoaaChecked
import GoSem.Claim
import GoSem.ClaimJoined
import GoSem.ClaimMapViews
import Derived.JoinedTies
import Derived.KernelRfl
namespace Go.Proofs.Ytmmabdioncgkoaa
/- THE CELL 'sum', in the pinned program and in every row, IS THE sha256 OF THE DUMP (.gsa) THAT YtmmabdioncgkoaaProg.lean LOADS. Nothing in Lean hashes anything: it is a label: what it is worth is what the hold of that sum in a sandbox is worth. -/
noncomputable def Try.pinned : Pinned := { name := "ytmmabdioncgkoaa", sum := "165d4e986292bc12d75d8e7524ea1da577ac9b90c0ee6970e82c8791a8283e2b", checked := Try.checked }
namespace Rows
def none {H : Type} : Left H := { results := [], args := [] }

/-- 'laws.FnExactTableValid': WHATEVER THE INPUT: true; the input reads as it did. -/
def fnExactTableValidSpec : ChangeSpec := { name := "fnExactTableValid", fn := fun _ => fun
  | [d] => { results := [.lit (.bool true)], args := [d] }
  | _ => none }
def fnExactTableValidRow : OpenClaim := { program := "ytmmabdioncgkoaa", sum := "165d4e986292bc12d75d8e7524ea1da577ac9b90c0ee6970e82c8791a8283e2b", func := "loop.example/disclosurecontrol/laws.FnExactTableValid", spec := "fnExactTableValid", unfollowed := true, recurses := true, apart := false }
def FnExactTableValidSaid : Prop := fnExactTableValidRow.holds Try.pinned (OpenSpec.ofChange fnExactTableValidSpec)

/-- ITS FALSE NEIGHBOUR: 'it returns false'. Refute it at one input. -/
def fnExactTableValidWrong : ChangeSpec := { name := "fnExactTableValid", fn := fun _ => fun
  | [d] => { results := [.lit (.bool false)], args := [d] }
  | _ => none }
def FnExactTableValidWrongFalsely : Prop := fnExactTableValidRow.holds Try.pinned (OpenSpec.ofChange fnExactTableValidWrong)

/-- 'laws.FnExactTableOf': WHATEVER THE INPUT: true; the input reads as it did. -/
def fnExactTableOfSpec : ChangeSpec := { name := "fnExactTableOf", fn := fun _ => fun
  | [d] => { results := [.lit (.bool true)], args := [d] }
  | _ => none }
def fnExactTableOfRow : OpenClaim := { program := "ytmmabdioncgkoaa", sum := "165d4e986292bc12d75d8e7524ea1da577ac9b90c0ee6970e82c8791a8283e2b", func := "loop.example/disclosurecontrol/laws.FnExactTableOf", spec := "fnExactTableOf", apart := false }
def FnExactTableOfSaid : Prop := fnExactTableOfRow.holds Try.pinned (OpenSpec.ofChange fnExactTableOfSpec)

/-- ITS FALSE NEIGHBOUR: 'it returns false'. Refute it at one input. -/
def fnExactTableOfWrong : ChangeSpec := { name := "fnExactTableOf", fn := fun _ => fun
  | [d] => { results := [.lit (.bool false)], args := [d] }
  | _ => none }
def FnExactTableOfWrongFalsely : Prop := fnExactTableOfRow.holds Try.pinned (OpenSpec.ofChange fnExactTableOfWrong)

/-- 'laws.FnExactTableSums': WHATEVER THE INPUT: true; the input reads as it did. -/
def fnExactTableSumsSpec : ChangeSpec := { name := "fnExactTableSums", fn := fun _ => fun
  | [d] => { results := [.lit (.bool true)], args := [d] }
  | _ => none }
def fnExactTableSumsRow : OpenClaim := { program := "ytmmabdioncgkoaa", sum := "165d4e986292bc12d75d8e7524ea1da577ac9b90c0ee6970e82c8791a8283e2b", func := "loop.example/disclosurecontrol/laws.FnExactTableSums", spec := "fnExactTableSums", unfollowed := true, recurses := true, apart := false }
def FnExactTableSumsSaid : Prop := fnExactTableSumsRow.holds Try.pinned (OpenSpec.ofChange fnExactTableSumsSpec)

/-- ITS FALSE NEIGHBOUR: 'it returns false'. Refute it at one input. -/
def fnExactTableSumsWrong : ChangeSpec := { name := "fnExactTableSums", fn := fun _ => fun
  | [d] => { results := [.lit (.bool false)], args := [d] }
  | _ => none }
def FnExactTableSumsWrongFalsely : Prop := fnExactTableSumsRow.holds Try.pinned (OpenSpec.ofChange fnExactTableSumsWrong)

/-- 'laws.FnExactTableTotal': WHATEVER THE INPUT: true; the input reads as it did. -/
def fnExactTableTotalSpec : ChangeSpec := { name := "fnExactTableTotal", fn := fun _ => fun
  | [d] => { results := [.lit (.bool true)], args := [d] }
  | _ => none }
def fnExactTableTotalRow : OpenClaim := { program := "ytmmabdioncgkoaa", sum := "165d4e986292bc12d75d8e7524ea1da577ac9b90c0ee6970e82c8791a8283e2b", func := "loop.example/disclosurecontrol/laws.FnExactTableTotal", spec := "fnExactTableTotal", unfollowed := true, recurses := true, apart := false }
def FnExactTableTotalSaid : Prop := fnExactTableTotalRow.holds Try.pinned (OpenSpec.ofChange fnExactTableTotalSpec)

/-- ITS FALSE NEIGHBOUR: 'it returns false'. Refute it at one input. -/
def fnExactTableTotalWrong : ChangeSpec := { name := "fnExactTableTotal", fn := fun _ => fun
  | [d] => { results := [.lit (.bool false)], args := [d] }
  | _ => none }
def FnExactTableTotalWrongFalsely : Prop := fnExactTableTotalRow.holds Try.pinned (OpenSpec.ofChange fnExactTableTotalWrong)

/-- 'laws.FnExactTableTurn': WHATEVER THE INPUT: true; the input reads as it did. -/
def fnExactTableTurnSpec : ChangeSpec := { name := "fnExactTableTurn", fn := fun _ => fun
  | [d] => { results := [.lit (.bool true)], args := [d] }
  | _ => none }
def fnExactTableTurnRow : OpenClaim := { program := "ytmmabdioncgkoaa", sum := "165d4e986292bc12d75d8e7524ea1da577ac9b90c0ee6970e82c8791a8283e2b", func := "loop.example/disclosurecontrol/laws.FnExactTableTurn", spec := "fnExactTableTurn", unfollowed := true, recurses := true, apart := false }
def FnExactTableTurnSaid : Prop := fnExactTableTurnRow.holds Try.pinned (OpenSpec.ofChange fnExactTableTurnSpec)

/-- ITS FALSE NEIGHBOUR: 'it returns false'. Refute it at one input. -/
def fnExactTableTurnWrong : ChangeSpec := { name := "fnExactTableTurn", fn := fun _ => fun
  | [d] => { results := [.lit (.bool false)], args := [d] }
  | _ => none }
def FnExactTableTurnWrongFalsely : Prop := fnExactTableTurnRow.holds Try.pinned (OpenSpec.ofChange fnExactTableTurnWrong)

/-- 'laws.FnExactTableFold': WHATEVER THE INPUT: true; the input reads as it did. -/
def fnExactTableFoldSpec : ChangeSpec := { name := "fnExactTableFold", fn := fun _ => fun
  | [d1, d2, d3] => { results := [.lit (.bool true)], args := [d1, d2, d3] }
  | _ => none }
def fnExactTableFoldRow : OpenClaim := { program := "ytmmabdioncgkoaa", sum := "165d4e986292bc12d75d8e7524ea1da577ac9b90c0ee6970e82c8791a8283e2b", func := "loop.example/disclosurecontrol/laws.FnExactTableFold", spec := "fnExactTableFold", unfollowed := true, recurses := true, apart := false }
def FnExactTableFoldSaid : Prop := fnExactTableFoldRow.holds Try.pinned (OpenSpec.ofChange fnExactTableFoldSpec)

/-- ITS FALSE NEIGHBOUR: 'it returns false'. Refute it at one input. -/
def fnExactTableFoldWrong : ChangeSpec := { name := "fnExactTableFold", fn := fun _ => fun
  | [d1, d2, d3] => { results := [.lit (.bool false)], args := [d1, d2, d3] }
  | _ => none }
def FnExactTableFoldWrongFalsely : Prop := fnExactTableFoldRow.holds Try.pinned (OpenSpec.ofChange fnExactTableFoldWrong)

/-- 'laws.FnExactMaskValid': WHATEVER THE INPUT: true; the input reads as it did. -/
def fnExactMaskValidSpec : ChangeSpec := { name := "fnExactMaskValid", fn := fun _ => fun
  | [d1, d2] => { results := [.lit (.bool true)], args := [d1, d2] }
  | _ => none }
def fnExactMaskValidRow : OpenClaim := { program := "ytmmabdioncgkoaa", sum := "165d4e986292bc12d75d8e7524ea1da577ac9b90c0ee6970e82c8791a8283e2b", func := "loop.example/disclosurecontrol/laws.FnExactMaskValid", spec := "fnExactMaskValid", unfollowed := true, recurses := true, apart := false }
def FnExactMaskValidSaid : Prop := fnExactMaskValidRow.holds Try.pinned (OpenSpec.ofChange fnExactMaskValidSpec)

/-- ITS FALSE NEIGHBOUR: 'it returns false'. Refute it at one input. -/
def fnExactMaskValidWrong : ChangeSpec := { name := "fnExactMaskValid", fn := fun _ => fun
  | [d1, d2] => { results := [.lit (.bool false)], args := [d1, d2] }
  | _ => none }
def FnExactMaskValidWrongFalsely : Prop := fnExactMaskValidRow.holds Try.pinned (OpenSpec.ofChange fnExactMaskValidWrong)

/-- 'laws.FnExactMaskMany': WHATEVER THE INPUT: true; the input reads as it did. -/
def fnExactMaskManySpec : ChangeSpec := { name := "fnExactMaskMany", fn := fun _ => fun
  | [d] => { results := [.lit (.bool true)], args := [d] }
  | _ => none }
def fnExactMaskManyRow : OpenClaim := { program := "ytmmabdioncgkoaa", sum := "165d4e986292bc12d75d8e7524ea1da577ac9b90c0ee6970e82c8791a8283e2b", func := "loop.example/disclosurecontrol/laws.FnExactMaskMany", spec := "fnExactMaskMany", apart := false }
def FnExactMaskManySaid : Prop := fnExactMaskManyRow.holds Try.pinned (OpenSpec.ofChange fnExactMaskManySpec)

/-- ITS FALSE NEIGHBOUR: 'it returns false'. Refute it at one input. -/
def fnExactMaskManyWrong : ChangeSpec := { name := "fnExactMaskMany", fn := fun _ => fun
  | [d] => { results := [.lit (.bool false)], args := [d] }
  | _ => none }
def FnExactMaskManyWrongFalsely : Prop := fnExactMaskManyRow.holds Try.pinned (OpenSpec.ofChange fnExactMaskManyWrong)

/-- 'laws.FnExactMaskSmall': WHATEVER THE INPUT: true; the input reads as it did. -/
def fnExactMaskSmallSpec : ChangeSpec := { name := "fnExactMaskSmall", fn := fun _ => fun
  | [d1, d2] => { results := [.lit (.bool true)], args := [d1, d2] }
  | _ => none }
def fnExactMaskSmallRow : OpenClaim := { program := "ytmmabdioncgkoaa", sum := "165d4e986292bc12d75d8e7524ea1da577ac9b90c0ee6970e82c8791a8283e2b", func := "loop.example/disclosurecontrol/laws.FnExactMaskSmall", spec := "fnExactMaskSmall", unfollowed := true, recurses := true, apart := false }
def FnExactMaskSmallSaid : Prop := fnExactMaskSmallRow.holds Try.pinned (OpenSpec.ofChange fnExactMaskSmallSpec)

/-- ITS FALSE NEIGHBOUR: 'it returns false'. Refute it at one input. -/
def fnExactMaskSmallWrong : ChangeSpec := { name := "fnExactMaskSmall", fn := fun _ => fun
  | [d1, d2] => { results := [.lit (.bool false)], args := [d1, d2] }
  | _ => none }
def FnExactMaskSmallWrongFalsely : Prop := fnExactMaskSmallRow.holds Try.pinned (OpenSpec.ofChange fnExactMaskSmallWrong)

/- THE SECOND FORM. 'bulk': how many values and letters a reading holds, each counted each time it is reached (what is shared counts as often as it is met; a slice's spare places count too). A statement '..UptoSaid' is the law's where the arguments, and the package variables that the reading takes, are together of bulk at most 1048576: NARROWER than '..Said'. Prove '..Said' where nothing that the law and all that it calls make is longer than what came in: it says more and counts as full. Else prove '..UptoSaid'. A law counts once. -/
mutual
def uptoBulk {H : Type} : DataW H → Nat
  | .lit (.string bytes) => bytes.length + 1
  | .lit _ => 1
  | .nil => 1
  | .ptr d => uptoBulk d + 1
  | .slice elems spare => uptoBulkAll elems + uptoBulkAll spare + 1
  | .agg parts => uptoBulkAll parts + 1
  | .iface _ d => uptoBulk d + 1
  | .map entries => uptoBulkEntries entries + 1
  | .held _ => 1
def uptoBulkAll {H : Type} : List (DataW H) → Nat
  | [] => 0
  | d :: r => uptoBulk d + uptoBulkAll r
def uptoBulkEntries {H : Type} : List (Lit × DataW H) → Nat
  | [] => 0
  | x :: r => uptoBulkEntry x + uptoBulkEntries r
def uptoBulkEntry {H : Type} : Lit × DataW H → Nat
  | (.string bytes, d) => bytes.length + uptoBulk d + 1
  | (_, d) => uptoBulk d + 1
 end
def uptoSmall : (H : Type) → List (DataW H) → Bool := fun _ ds => decide (uptoBulkAll ds ≤ 1048576)
def OpenSpec.upto (s : _root_.Go.ChangeSpec) : _root_.Go.OpenSpec := { _root_.Go.OpenSpec.ofChange s with cond := some uptoSmall }

/-- 'laws.FnExactTableValid', WHERE WHAT IT READS IS OF BULK AT MOST 1048576: true; the input reads as it did. -/
def fnExactTableValidUptoRow : OpenClaim := { program := "ytmmabdioncgkoaa", sum := "165d4e986292bc12d75d8e7524ea1da577ac9b90c0ee6970e82c8791a8283e2b", func := "loop.example/disclosurecontrol/laws.FnExactTableValid", spec := "fnExactTableValid", unfollowed := true, recurses := true, apart := false, narrowed := true }
def FnExactTableValidUptoSaid : Prop := fnExactTableValidUptoRow.holds Try.pinned (OpenSpec.upto fnExactTableValidSpec)

/-- 'laws.FnExactTableOf', WHERE WHAT IT READS IS OF BULK AT MOST 1048576: true; the input reads as it did. -/
def fnExactTableOfUptoRow : OpenClaim := { program := "ytmmabdioncgkoaa", sum := "165d4e986292bc12d75d8e7524ea1da577ac9b90c0ee6970e82c8791a8283e2b", func := "loop.example/disclosurecontrol/laws.FnExactTableOf", spec := "fnExactTableOf", apart := false, narrowed := true }
def FnExactTableOfUptoSaid : Prop := fnExactTableOfUptoRow.holds Try.pinned (OpenSpec.upto fnExactTableOfSpec)

/-- 'laws.FnExactTableSums', WHERE WHAT IT READS IS OF BULK AT MOST 1048576: true; the input reads as it did. -/
def fnExactTableSumsUptoRow : OpenClaim := { program := "ytmmabdioncgkoaa", sum := "165d4e986292bc12d75d8e7524ea1da577ac9b90c0ee6970e82c8791a8283e2b", func := "loop.example/disclosurecontrol/laws.FnExactTableSums", spec := "fnExactTableSums", unfollowed := true, recurses := true, apart := false, narrowed := true }
def FnExactTableSumsUptoSaid : Prop := fnExactTableSumsUptoRow.holds Try.pinned (OpenSpec.upto fnExactTableSumsSpec)

/-- 'laws.FnExactTableTotal', WHERE WHAT IT READS IS OF BULK AT MOST 1048576: true; the input reads as it did. -/
def fnExactTableTotalUptoRow : OpenClaim := { program := "ytmmabdioncgkoaa", sum := "165d4e986292bc12d75d8e7524ea1da577ac9b90c0ee6970e82c8791a8283e2b", func := "loop.example/disclosurecontrol/laws.FnExactTableTotal", spec := "fnExactTableTotal", unfollowed := true, recurses := true, apart := false, narrowed := true }
def FnExactTableTotalUptoSaid : Prop := fnExactTableTotalUptoRow.holds Try.pinned (OpenSpec.upto fnExactTableTotalSpec)

/-- 'laws.FnExactTableTurn', WHERE WHAT IT READS IS OF BULK AT MOST 1048576: true; the input reads as it did. -/
def fnExactTableTurnUptoRow : OpenClaim := { program := "ytmmabdioncgkoaa", sum := "165d4e986292bc12d75d8e7524ea1da577ac9b90c0ee6970e82c8791a8283e2b", func := "loop.example/disclosurecontrol/laws.FnExactTableTurn", spec := "fnExactTableTurn", unfollowed := true, recurses := true, apart := false, narrowed := true }
def FnExactTableTurnUptoSaid : Prop := fnExactTableTurnUptoRow.holds Try.pinned (OpenSpec.upto fnExactTableTurnSpec)

/-- 'laws.FnExactTableFold', WHERE WHAT IT READS IS OF BULK AT MOST 1048576: true; the input reads as it did. -/
def fnExactTableFoldUptoRow : OpenClaim := { program := "ytmmabdioncgkoaa", sum := "165d4e986292bc12d75d8e7524ea1da577ac9b90c0ee6970e82c8791a8283e2b", func := "loop.example/disclosurecontrol/laws.FnExactTableFold", spec := "fnExactTableFold", unfollowed := true, recurses := true, apart := false, narrowed := true }
def FnExactTableFoldUptoSaid : Prop := fnExactTableFoldUptoRow.holds Try.pinned (OpenSpec.upto fnExactTableFoldSpec)

/-- 'laws.FnExactMaskValid', WHERE WHAT IT READS IS OF BULK AT MOST 1048576: true; the input reads as it did. -/
def fnExactMaskValidUptoRow : OpenClaim := { program := "ytmmabdioncgkoaa", sum := "165d4e986292bc12d75d8e7524ea1da577ac9b90c0ee6970e82c8791a8283e2b", func := "loop.example/disclosurecontrol/laws.FnExactMaskValid", spec := "fnExactMaskValid", unfollowed := true, recurses := true, apart := false, narrowed := true }
def FnExactMaskValidUptoSaid : Prop := fnExactMaskValidUptoRow.holds Try.pinned (OpenSpec.upto fnExactMaskValidSpec)

/-- 'laws.FnExactMaskMany', WHERE WHAT IT READS IS OF BULK AT MOST 1048576: true; the input reads as it did. -/
def fnExactMaskManyUptoRow : OpenClaim := { program := "ytmmabdioncgkoaa", sum := "165d4e986292bc12d75d8e7524ea1da577ac9b90c0ee6970e82c8791a8283e2b", func := "loop.example/disclosurecontrol/laws.FnExactMaskMany", spec := "fnExactMaskMany", apart := false, narrowed := true }
def FnExactMaskManyUptoSaid : Prop := fnExactMaskManyUptoRow.holds Try.pinned (OpenSpec.upto fnExactMaskManySpec)

/-- 'laws.FnExactMaskSmall', WHERE WHAT IT READS IS OF BULK AT MOST 1048576: true; the input reads as it did. -/
def fnExactMaskSmallUptoRow : OpenClaim := { program := "ytmmabdioncgkoaa", sum := "165d4e986292bc12d75d8e7524ea1da577ac9b90c0ee6970e82c8791a8283e2b", func := "loop.example/disclosurecontrol/laws.FnExactMaskSmall", spec := "fnExactMaskSmall", unfollowed := true, recurses := true, apart := false, narrowed := true }
def FnExactMaskSmallUptoSaid : Prop := fnExactMaskSmallUptoRow.holds Try.pinned (OpenSpec.upto fnExactMaskSmallSpec)

end Rows
end Go.Proofs.Ytmmabdioncgkoaa
