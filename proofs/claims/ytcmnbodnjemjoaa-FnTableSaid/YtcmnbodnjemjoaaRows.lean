/-
  No cell of these rows narrows 'for every input' (looked for: loops, veiled, ifaces, maps, wideKeys, modest, calm, conditions, laid).
  DERIVED. THE GIVEN ROWS OF THIS SEAT. 11 by the template 'for every input the law returns true; each argument reads behind the call as it read before'; 0 by the template 'total and deterministic' (their statements: YtcmnbodnjemjoaaTotals.lean).
  GIVEN WITH THE SEED: the statements are not yours to turn. If you find one false, say at which input.
  Laid BY PROGRAM, IN A SANDBOX (cutbox-rows.mjs): the forced cells as the released guide's own fill.sh prints them over the translation 999f5f213a60972e… (all of the seat's roots in one cut). By AI agents, Wed Nov 11 2026. No macro, syntax, notation, axiom, sorry.
-/
import Derived.Test.YtcmnbodnjemjoaaChecked
import GoSem.Claim
import GoSem.ClaimJoined
import GoSem.ClaimMapViews
import Derived.JoinedTies
import Derived.KernelRfl
namespace Go.Proofs.Ytcmnbodnjemjoaa
/- THE CELL 'sum', in the pinned program and in every row, IS THE sha256 OF THE DUMP (.gsa) THAT YtcmnbodnjemjoaaProg.lean LOADS. Nothing in Lean hashes anything: it is a label: what it is worth is what the hold of that sum in a sandbox is worth. -/
noncomputable def Try.pinned : Pinned := { name := "ytcmnbodnjemjoaa", sum := "999f5f213a60972e0e791cda9c72321ed9b4393e8e207f1fbe39a99c121acd18", checked := Try.checked }
namespace Rows
def none {H : Type} : Left H := { results := [], args := [] }

/-- 'laws.FnTable': WHATEVER THE INPUT: true; the input reads as it did. -/
def fnTableSpec : ChangeSpec := { name := "fnTable", fn := fun _ => fun
  | [d1, d2] => { results := [.lit (.bool true)], args := [d1, d2] }
  | _ => none }
def fnTableRow : OpenClaim := { program := "ytcmnbodnjemjoaa", sum := "999f5f213a60972e0e791cda9c72321ed9b4393e8e207f1fbe39a99c121acd18", func := "loop.example/disclosurecontrol/laws.FnTable", spec := "fnTable", unfollowed := true, recurses := true, apart := false }
def FnTableSaid : Prop := fnTableRow.holds Try.pinned (OpenSpec.ofChange fnTableSpec)

/-- ITS FALSE NEIGHBOUR: 'it returns false'. Refute it at one input. -/
def fnTableWrong : ChangeSpec := { name := "fnTable", fn := fun _ => fun
  | [d1, d2] => { results := [.lit (.bool false)], args := [d1, d2] }
  | _ => none }
def FnTableWrongFalsely : Prop := fnTableRow.holds Try.pinned (OpenSpec.ofChange fnTableWrong)

/-- 'laws.FnTableSums': WHATEVER THE INPUT: true; the input reads as it did. -/
def fnTableSumsSpec : ChangeSpec := { name := "fnTableSums", fn := fun _ => fun
  | [d] => { results := [.lit (.bool true)], args := [d] }
  | _ => none }
def fnTableSumsRow : OpenClaim := { program := "ytcmnbodnjemjoaa", sum := "999f5f213a60972e0e791cda9c72321ed9b4393e8e207f1fbe39a99c121acd18", func := "loop.example/disclosurecontrol/laws.FnTableSums", spec := "fnTableSums", unfollowed := true, recurses := true, apart := false }
def FnTableSumsSaid : Prop := fnTableSumsRow.holds Try.pinned (OpenSpec.ofChange fnTableSumsSpec)

/-- ITS FALSE NEIGHBOUR: 'it returns false'. Refute it at one input. -/
def fnTableSumsWrong : ChangeSpec := { name := "fnTableSums", fn := fun _ => fun
  | [d] => { results := [.lit (.bool false)], args := [d] }
  | _ => none }
def FnTableSumsWrongFalsely : Prop := fnTableSumsRow.holds Try.pinned (OpenSpec.ofChange fnTableSumsWrong)

/-- 'laws.FnTableSumsRow': WHATEVER THE INPUT: true; the input reads as it did. -/
def fnTableSumsRowSpec : ChangeSpec := { name := "fnTableSumsRow", fn := fun _ => fun
  | [d1, d2] => { results := [.lit (.bool true)], args := [d1, d2] }
  | _ => none }
def fnTableSumsRowRow : OpenClaim := { program := "ytcmnbodnjemjoaa", sum := "999f5f213a60972e0e791cda9c72321ed9b4393e8e207f1fbe39a99c121acd18", func := "loop.example/disclosurecontrol/laws.FnTableSumsRow", spec := "fnTableSumsRow", unfollowed := true, recurses := true, apart := false }
def FnTableSumsRowSaid : Prop := fnTableSumsRowRow.holds Try.pinned (OpenSpec.ofChange fnTableSumsRowSpec)

/-- ITS FALSE NEIGHBOUR: 'it returns false'. Refute it at one input. -/
def fnTableSumsRowWrong : ChangeSpec := { name := "fnTableSumsRow", fn := fun _ => fun
  | [d1, d2] => { results := [.lit (.bool false)], args := [d1, d2] }
  | _ => none }
def FnTableSumsRowWrongFalsely : Prop := fnTableSumsRowRow.holds Try.pinned (OpenSpec.ofChange fnTableSumsRowWrong)

/-- 'laws.FnTableTurn': WHATEVER THE INPUT: true; the input reads as it did. -/
def fnTableTurnSpec : ChangeSpec := { name := "fnTableTurn", fn := fun _ => fun
  | [d] => { results := [.lit (.bool true)], args := [d] }
  | _ => none }
def fnTableTurnRow : OpenClaim := { program := "ytcmnbodnjemjoaa", sum := "999f5f213a60972e0e791cda9c72321ed9b4393e8e207f1fbe39a99c121acd18", func := "loop.example/disclosurecontrol/laws.FnTableTurn", spec := "fnTableTurn", unfollowed := true, recurses := true, apart := false }
def FnTableTurnSaid : Prop := fnTableTurnRow.holds Try.pinned (OpenSpec.ofChange fnTableTurnSpec)

/-- ITS FALSE NEIGHBOUR: 'it returns false'. Refute it at one input. -/
def fnTableTurnWrong : ChangeSpec := { name := "fnTableTurn", fn := fun _ => fun
  | [d] => { results := [.lit (.bool false)], args := [d] }
  | _ => none }
def FnTableTurnWrongFalsely : Prop := fnTableTurnRow.holds Try.pinned (OpenSpec.ofChange fnTableTurnWrong)

/-- 'laws.FnTableTotalParts': WHATEVER THE INPUT: true; the input reads as it did. -/
def fnTableTotalPartsSpec : ChangeSpec := { name := "fnTableTotalParts", fn := fun _ => fun
  | [d1, d2] => { results := [.lit (.bool true)], args := [d1, d2] }
  | _ => none }
def fnTableTotalPartsRow : OpenClaim := { program := "ytcmnbodnjemjoaa", sum := "999f5f213a60972e0e791cda9c72321ed9b4393e8e207f1fbe39a99c121acd18", func := "loop.example/disclosurecontrol/laws.FnTableTotalParts", spec := "fnTableTotalParts", unfollowed := true, recurses := true, apart := false }
def FnTableTotalPartsSaid : Prop := fnTableTotalPartsRow.holds Try.pinned (OpenSpec.ofChange fnTableTotalPartsSpec)

/-- ITS FALSE NEIGHBOUR: 'it returns false'. Refute it at one input. -/
def fnTableTotalPartsWrong : ChangeSpec := { name := "fnTableTotalParts", fn := fun _ => fun
  | [d1, d2] => { results := [.lit (.bool false)], args := [d1, d2] }
  | _ => none }
def FnTableTotalPartsWrongFalsely : Prop := fnTableTotalPartsRow.holds Try.pinned (OpenSpec.ofChange fnTableTotalPartsWrong)

/-- 'laws.FnMask': WHATEVER THE INPUT: true; the input reads as it did. -/
def fnMaskSpec : ChangeSpec := { name := "fnMask", fn := fun _ => fun
  | [d] => { results := [.lit (.bool true)], args := [d] }
  | _ => none }
def fnMaskRow : OpenClaim := { program := "ytcmnbodnjemjoaa", sum := "999f5f213a60972e0e791cda9c72321ed9b4393e8e207f1fbe39a99c121acd18", func := "loop.example/disclosurecontrol/laws.FnMask", spec := "fnMask", unfollowed := true, recurses := true, apart := false }
def FnMaskSaid : Prop := fnMaskRow.holds Try.pinned (OpenSpec.ofChange fnMaskSpec)

/-- ITS FALSE NEIGHBOUR: 'it returns false'. Refute it at one input. -/
def fnMaskWrong : ChangeSpec := { name := "fnMask", fn := fun _ => fun
  | [d] => { results := [.lit (.bool false)], args := [d] }
  | _ => none }
def FnMaskWrongFalsely : Prop := fnMaskRow.holds Try.pinned (OpenSpec.ofChange fnMaskWrong)

/-- 'laws.FnMaskMany': WHATEVER THE INPUT: true; the input reads as it did. -/
def fnMaskManySpec : ChangeSpec := { name := "fnMaskMany", fn := fun _ => fun
  | [d1, d2] => { results := [.lit (.bool true)], args := [d1, d2] }
  | _ => none }
def fnMaskManyRow : OpenClaim := { program := "ytcmnbodnjemjoaa", sum := "999f5f213a60972e0e791cda9c72321ed9b4393e8e207f1fbe39a99c121acd18", func := "loop.example/disclosurecontrol/laws.FnMaskMany", spec := "fnMaskMany", apart := false }
def FnMaskManySaid : Prop := fnMaskManyRow.holds Try.pinned (OpenSpec.ofChange fnMaskManySpec)

/-- ITS FALSE NEIGHBOUR: 'it returns false'. Refute it at one input. -/
def fnMaskManyWrong : ChangeSpec := { name := "fnMaskMany", fn := fun _ => fun
  | [d1, d2] => { results := [.lit (.bool false)], args := [d1, d2] }
  | _ => none }
def FnMaskManyWrongFalsely : Prop := fnMaskManyRow.holds Try.pinned (OpenSpec.ofChange fnMaskManyWrong)

/-- 'laws.FnMaskSmall': WHATEVER THE INPUT: true; the input reads as it did. -/
def fnMaskSmallSpec : ChangeSpec := { name := "fnMaskSmall", fn := fun _ => fun
  | [d] => { results := [.lit (.bool true)], args := [d] }
  | _ => none }
def fnMaskSmallRow : OpenClaim := { program := "ytcmnbodnjemjoaa", sum := "999f5f213a60972e0e791cda9c72321ed9b4393e8e207f1fbe39a99c121acd18", func := "loop.example/disclosurecontrol/laws.FnMaskSmall", spec := "fnMaskSmall", unfollowed := true, recurses := true, apart := false }
def FnMaskSmallSaid : Prop := fnMaskSmallRow.holds Try.pinned (OpenSpec.ofChange fnMaskSmallSpec)

/-- ITS FALSE NEIGHBOUR: 'it returns false'. Refute it at one input. -/
def fnMaskSmallWrong : ChangeSpec := { name := "fnMaskSmall", fn := fun _ => fun
  | [d] => { results := [.lit (.bool false)], args := [d] }
  | _ => none }
def FnMaskSmallWrongFalsely : Prop := fnMaskSmallRow.holds Try.pinned (OpenSpec.ofChange fnMaskSmallWrong)

/-- 'laws.FnMaskSmallTurn': WHATEVER THE INPUT: true; the input reads as it did. -/
def fnMaskSmallTurnSpec : ChangeSpec := { name := "fnMaskSmallTurn", fn := fun _ => fun
  | [d] => { results := [.lit (.bool true)], args := [d] }
  | _ => none }
def fnMaskSmallTurnRow : OpenClaim := { program := "ytcmnbodnjemjoaa", sum := "999f5f213a60972e0e791cda9c72321ed9b4393e8e207f1fbe39a99c121acd18", func := "loop.example/disclosurecontrol/laws.FnMaskSmallTurn", spec := "fnMaskSmallTurn", unfollowed := true, recurses := true, apart := false }
def FnMaskSmallTurnSaid : Prop := fnMaskSmallTurnRow.holds Try.pinned (OpenSpec.ofChange fnMaskSmallTurnSpec)

/-- ITS FALSE NEIGHBOUR: 'it returns false'. Refute it at one input. -/
def fnMaskSmallTurnWrong : ChangeSpec := { name := "fnMaskSmallTurn", fn := fun _ => fun
  | [d] => { results := [.lit (.bool false)], args := [d] }
  | _ => none }
def FnMaskSmallTurnWrongFalsely : Prop := fnMaskSmallTurnRow.holds Try.pinned (OpenSpec.ofChange fnMaskSmallTurnWrong)

/-- 'laws.FnTableFold': WHATEVER THE INPUT: true; the input reads as it did. -/
def fnTableFoldSpec : ChangeSpec := { name := "fnTableFold", fn := fun _ => fun
  | [d] => { results := [.lit (.bool true)], args := [d] }
  | _ => none }
def fnTableFoldRow : OpenClaim := { program := "ytcmnbodnjemjoaa", sum := "999f5f213a60972e0e791cda9c72321ed9b4393e8e207f1fbe39a99c121acd18", func := "loop.example/disclosurecontrol/laws.FnTableFold", spec := "fnTableFold", unfollowed := true, recurses := true, apart := false }
def FnTableFoldSaid : Prop := fnTableFoldRow.holds Try.pinned (OpenSpec.ofChange fnTableFoldSpec)

/-- ITS FALSE NEIGHBOUR: 'it returns false'. Refute it at one input. -/
def fnTableFoldWrong : ChangeSpec := { name := "fnTableFold", fn := fun _ => fun
  | [d] => { results := [.lit (.bool false)], args := [d] }
  | _ => none }
def FnTableFoldWrongFalsely : Prop := fnTableFoldRow.holds Try.pinned (OpenSpec.ofChange fnTableFoldWrong)

/-- 'laws.FnTableFoldTurn': WHATEVER THE INPUT: true; the input reads as it did. -/
def fnTableFoldTurnSpec : ChangeSpec := { name := "fnTableFoldTurn", fn := fun _ => fun
  | [d] => { results := [.lit (.bool true)], args := [d] }
  | _ => none }
def fnTableFoldTurnRow : OpenClaim := { program := "ytcmnbodnjemjoaa", sum := "999f5f213a60972e0e791cda9c72321ed9b4393e8e207f1fbe39a99c121acd18", func := "loop.example/disclosurecontrol/laws.FnTableFoldTurn", spec := "fnTableFoldTurn", unfollowed := true, recurses := true, apart := false }
def FnTableFoldTurnSaid : Prop := fnTableFoldTurnRow.holds Try.pinned (OpenSpec.ofChange fnTableFoldTurnSpec)

/-- ITS FALSE NEIGHBOUR: 'it returns false'. Refute it at one input. -/
def fnTableFoldTurnWrong : ChangeSpec := { name := "fnTableFoldTurn", fn := fun _ => fun
  | [d] => { results := [.lit (.bool false)], args := [d] }
  | _ => none }
def FnTableFoldTurnWrongFalsely : Prop := fnTableFoldTurnRow.holds Try.pinned (OpenSpec.ofChange fnTableFoldTurnWrong)

/- THE SECOND FORM. 'bulk': how many values and letters a reading holds, each counted each time it is reached (what is shared counts as often as it is met; a slice's spare places count too). A statement '..UptoSaid' is the law's where the arguments, and the package variables that the reading takes, are together of bulk at most 1048576: NARROWER than '..Said'. Prove '..Said' where nothing that the law and all that it calls make is longer than what came in: it says more and counts as full. Else prove '..UptoSaid'. A law counts once. -/
mutual
def uptoBulk {H : Type} : DataW H → Nat
  | .lit (.string bytes) => bytes.length + 1
  | .lit _ => 1
  | .nil => 1
  | .ptr d => uptoBulk d + 1
  | .slice elems spare => uptoBulkAll elems + uptoBulkAll spare + 1
  | .agg parts => uptoBulkAll parts + 1
  | .iface _ d => uptoBulk d + 1
  | .map entries => uptoBulkEntries entries + 1
  | .held _ => 1
def uptoBulkAll {H : Type} : List (DataW H) → Nat
  | [] => 0
  | d :: r => uptoBulk d + uptoBulkAll r
def uptoBulkEntries {H : Type} : List (Lit × DataW H) → Nat
  | [] => 0
  | x :: r => uptoBulkEntry x + uptoBulkEntries r
def uptoBulkEntry {H : Type} : Lit × DataW H → Nat
  | (.string bytes, d) => bytes.length + uptoBulk d + 1
  | (_, d) => uptoBulk d + 1
 end
def uptoSmall : (H : Type) → List (DataW H) → Bool := fun _ ds => decide (uptoBulkAll ds ≤ 1048576)
def OpenSpec.upto (s : _root_.Go.ChangeSpec) : _root_.Go.OpenSpec := { _root_.Go.OpenSpec.ofChange s with cond := some uptoSmall }

/-- 'laws.FnTable', WHERE WHAT IT READS IS OF BULK AT MOST 1048576: true; the input reads as it did. -/
def fnTableUptoRow : OpenClaim := { program := "ytcmnbodnjemjoaa", sum := "999f5f213a60972e0e791cda9c72321ed9b4393e8e207f1fbe39a99c121acd18", func := "loop.example/disclosurecontrol/laws.FnTable", spec := "fnTable", unfollowed := true, recurses := true, apart := false, narrowed := true }
def FnTableUptoSaid : Prop := fnTableUptoRow.holds Try.pinned (OpenSpec.upto fnTableSpec)

/-- 'laws.FnTableSums', WHERE WHAT IT READS IS OF BULK AT MOST 1048576: true; the input reads as it did. -/
def fnTableSumsUptoRow : OpenClaim := { program := "ytcmnbodnjemjoaa", sum := "999f5f213a60972e0e791cda9c72321ed9b4393e8e207f1fbe39a99c121acd18", func := "loop.example/disclosurecontrol/laws.FnTableSums", spec := "fnTableSums", unfollowed := true, recurses := true, apart := false, narrowed := true }
def FnTableSumsUptoSaid : Prop := fnTableSumsUptoRow.holds Try.pinned (OpenSpec.upto fnTableSumsSpec)

/-- 'laws.FnTableSumsRow', WHERE WHAT IT READS IS OF BULK AT MOST 1048576: true; the input reads as it did. -/
def fnTableSumsRowUptoRow : OpenClaim := { program := "ytcmnbodnjemjoaa", sum := "999f5f213a60972e0e791cda9c72321ed9b4393e8e207f1fbe39a99c121acd18", func := "loop.example/disclosurecontrol/laws.FnTableSumsRow", spec := "fnTableSumsRow", unfollowed := true, recurses := true, apart := false, narrowed := true }
def FnTableSumsRowUptoSaid : Prop := fnTableSumsRowUptoRow.holds Try.pinned (OpenSpec.upto fnTableSumsRowSpec)

/-- 'laws.FnTableTurn', WHERE WHAT IT READS IS OF BULK AT MOST 1048576: true; the input reads as it did. -/
def fnTableTurnUptoRow : OpenClaim := { program := "ytcmnbodnjemjoaa", sum := "999f5f213a60972e0e791cda9c72321ed9b4393e8e207f1fbe39a99c121acd18", func := "loop.example/disclosurecontrol/laws.FnTableTurn", spec := "fnTableTurn", unfollowed := true, recurses := true, apart := false, narrowed := true }
def FnTableTurnUptoSaid : Prop := fnTableTurnUptoRow.holds Try.pinned (OpenSpec.upto fnTableTurnSpec)

/-- 'laws.FnTableTotalParts', WHERE WHAT IT READS IS OF BULK AT MOST 1048576: true; the input reads as it did. -/
def fnTableTotalPartsUptoRow : OpenClaim := { program := "ytcmnbodnjemjoaa", sum := "999f5f213a60972e0e791cda9c72321ed9b4393e8e207f1fbe39a99c121acd18", func := "loop.example/disclosurecontrol/laws.FnTableTotalParts", spec := "fnTableTotalParts", unfollowed := true, recurses := true, apart := false, narrowed := true }
def FnTableTotalPartsUptoSaid : Prop := fnTableTotalPartsUptoRow.holds Try.pinned (OpenSpec.upto fnTableTotalPartsSpec)

/-- 'laws.FnMask', WHERE WHAT IT READS IS OF BULK AT MOST 1048576: true; the input reads as it did. -/
def fnMaskUptoRow : OpenClaim := { program := "ytcmnbodnjemjoaa", sum := "999f5f213a60972e0e791cda9c72321ed9b4393e8e207f1fbe39a99c121acd18", func := "loop.example/disclosurecontrol/laws.FnMask", spec := "fnMask", unfollowed := true, recurses := true, apart := false, narrowed := true }
def FnMaskUptoSaid : Prop := fnMaskUptoRow.holds Try.pinned (OpenSpec.upto fnMaskSpec)

/-- 'laws.FnMaskMany', WHERE WHAT IT READS IS OF BULK AT MOST 1048576: true; the input reads as it did. -/
def fnMaskManyUptoRow : OpenClaim := { program := "ytcmnbodnjemjoaa", sum := "999f5f213a60972e0e791cda9c72321ed9b4393e8e207f1fbe39a99c121acd18", func := "loop.example/disclosurecontrol/laws.FnMaskMany", spec := "fnMaskMany", apart := false, narrowed := true }
def FnMaskManyUptoSaid : Prop := fnMaskManyUptoRow.holds Try.pinned (OpenSpec.upto fnMaskManySpec)

/-- 'laws.FnMaskSmall', WHERE WHAT IT READS IS OF BULK AT MOST 1048576: true; the input reads as it did. -/
def fnMaskSmallUptoRow : OpenClaim := { program := "ytcmnbodnjemjoaa", sum := "999f5f213a60972e0e791cda9c72321ed9b4393e8e207f1fbe39a99c121acd18", func := "loop.example/disclosurecontrol/laws.FnMaskSmall", spec := "fnMaskSmall", unfollowed := true, recurses := true, apart := false, narrowed := true }
def FnMaskSmallUptoSaid : Prop := fnMaskSmallUptoRow.holds Try.pinned (OpenSpec.upto fnMaskSmallSpec)

/-- 'laws.FnMaskSmallTurn', WHERE WHAT IT READS IS OF BULK AT MOST 1048576: true; the input reads as it did. -/
def fnMaskSmallTurnUptoRow : OpenClaim := { program := "ytcmnbodnjemjoaa", sum := "999f5f213a60972e0e791cda9c72321ed9b4393e8e207f1fbe39a99c121acd18", func := "loop.example/disclosurecontrol/laws.FnMaskSmallTurn", spec := "fnMaskSmallTurn", unfollowed := true, recurses := true, apart := false, narrowed := true }
def FnMaskSmallTurnUptoSaid : Prop := fnMaskSmallTurnUptoRow.holds Try.pinned (OpenSpec.upto fnMaskSmallTurnSpec)

/-- 'laws.FnTableFold', WHERE WHAT IT READS IS OF BULK AT MOST 1048576: true; the input reads as it did. -/
def fnTableFoldUptoRow : OpenClaim := { program := "ytcmnbodnjemjoaa", sum := "999f5f213a60972e0e791cda9c72321ed9b4393e8e207f1fbe39a99c121acd18", func := "loop.example/disclosurecontrol/laws.FnTableFold", spec := "fnTableFold", unfollowed := true, recurses := true, apart := false, narrowed := true }
def FnTableFoldUptoSaid : Prop := fnTableFoldUptoRow.holds Try.pinned (OpenSpec.upto fnTableFoldSpec)

/-- 'laws.FnTableFoldTurn', WHERE WHAT IT READS IS OF BULK AT MOST 1048576: true; the input reads as it did. -/
def fnTableFoldTurnUptoRow : OpenClaim := { program := "ytcmnbodnjemjoaa", sum := "999f5f213a60972e0e791cda9c72321ed9b4393e8e207f1fbe39a99c121acd18", func := "loop.example/disclosurecontrol/laws.FnTableFoldTurn", spec := "fnTableFoldTurn", unfollowed := true, recurses := true, apart := false, narrowed := true }
def FnTableFoldTurnUptoSaid : Prop := fnTableFoldTurnUptoRow.holds Try.pinned (OpenSpec.upto fnTableFoldTurnSpec)

end Rows
end Go.Proofs.Ytcmnbodnjemjoaa
