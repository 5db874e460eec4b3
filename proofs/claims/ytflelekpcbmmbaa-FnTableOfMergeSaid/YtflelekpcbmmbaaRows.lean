/-
  No cell of these rows narrows 'for every input' (looked for: loops, veiled, ifaces, maps, wideKeys, modest, calm, conditions, laid).
  DERIVED. THE GIVEN ROWS OF THIS SEAT. 5 by the template 'for every input the law returns true; each argument reads behind the call as it read before'; 0 by the template 'total and deterministic' (their statements: YtflelekpcbmmbaaTotals.lean).
  GIVEN WITH THE SEED: the statements are not yours to turn. If you find one false, say at which input.
  Laid BY PROGRAM, IN A SANDBOX (cutbox-rows.mjs): the forced cells as the released guide's own fill.sh prints them over the translation c54ccf1b96b16010… (all of the seat's roots in one cut). By AI agents, Wed Nov 11 2026. No macro, syntax, notation, axiom, sorry.
-/
import Derived.Test.YtflelekpcbmmbaaChecked
import GoSem.Claim
import GoSem.ClaimJoined
import GoSem.ClaimMapViews
import Derived.JoinedTies
import Derived.KernelRfl
namespace Go.Proofs.Ytflelekpcbmmbaa
/- THE CELL 'sum', in the pinned program and in every row, IS THE sha256 OF THE DUMP (.gsa) THAT YtflelekpcbmmbaaProg.lean LOADS. Nothing in Lean hashes anything: it is a label: what it is worth is what the hold of that sum in a sandbox is worth. -/
noncomputable def Try.pinned : Pinned := { name := "ytflelekpcbmmbaa", sum := "c54ccf1b96b160108634300cc4b1671b6bc964c76c7dd0fb499e345b81177355", checked := Try.checked }
namespace Rows
def none {H : Type} : Left H := { results := [], args := [] }

/-- 'laws.FnTableOf': WHATEVER THE INPUT: true; the input reads as it did. -/
def fnTableOfSpec : ChangeSpec := { name := "fnTableOf", fn := fun _ => fun
  | [d] => { results := [.lit (.bool true)], args := [d] }
  | _ => none }
def fnTableOfRow : OpenClaim := { program := "ytflelekpcbmmbaa", sum := "c54ccf1b96b160108634300cc4b1671b6bc964c76c7dd0fb499e345b81177355", func := "loop.example/disclosurecontrol/laws.FnTableOf", spec := "fnTableOf", unfollowed := true, recurses := true, apart := false }
def FnTableOfSaid : Prop := fnTableOfRow.holds Try.pinned (OpenSpec.ofChange fnTableOfSpec)

/-- ITS FALSE NEIGHBOUR: 'it returns false'. Refute it at one input. -/
def fnTableOfWrong : ChangeSpec := { name := "fnTableOf", fn := fun _ => fun
  | [d] => { results := [.lit (.bool false)], args := [d] }
  | _ => none }
def FnTableOfWrongFalsely : Prop := fnTableOfRow.holds Try.pinned (OpenSpec.ofChange fnTableOfWrong)

/-- 'laws.FnTableOfMerge': WHATEVER THE INPUT: true; the input reads as it did. -/
def fnTableOfMergeSpec : ChangeSpec := { name := "fnTableOfMerge", fn := fun _ => fun
  | [d] => { results := [.lit (.bool true)], args := [d] }
  | _ => none }
def fnTableOfMergeRow : OpenClaim := { program := "ytflelekpcbmmbaa", sum := "c54ccf1b96b160108634300cc4b1671b6bc964c76c7dd0fb499e345b81177355", func := "loop.example/disclosurecontrol/laws.FnTableOfMerge", spec := "fnTableOfMerge", unfollowed := true, recurses := true, apart := false }
def FnTableOfMergeSaid : Prop := fnTableOfMergeRow.holds Try.pinned (OpenSpec.ofChange fnTableOfMergeSpec)

/-- ITS FALSE NEIGHBOUR: 'it returns false'. Refute it at one input. -/
def fnTableOfMergeWrong : ChangeSpec := { name := "fnTableOfMerge", fn := fun _ => fun
  | [d] => { results := [.lit (.bool false)], args := [d] }
  | _ => none }
def FnTableOfMergeWrongFalsely : Prop := fnTableOfMergeRow.holds Try.pinned (OpenSpec.ofChange fnTableOfMergeWrong)

/-- 'laws.FnTableOfSums': WHATEVER THE INPUT: true; the input reads as it did. -/
def fnTableOfSumsSpec : ChangeSpec := { name := "fnTableOfSums", fn := fun _ => fun
  | [d] => { results := [.lit (.bool true)], args := [d] }
  | _ => none }
def fnTableOfSumsRow : OpenClaim := { program := "ytflelekpcbmmbaa", sum := "c54ccf1b96b160108634300cc4b1671b6bc964c76c7dd0fb499e345b81177355", func := "loop.example/disclosurecontrol/laws.FnTableOfSums", spec := "fnTableOfSums", unfollowed := true, recurses := true, apart := false }
def FnTableOfSumsSaid : Prop := fnTableOfSumsRow.holds Try.pinned (OpenSpec.ofChange fnTableOfSumsSpec)

/-- ITS FALSE NEIGHBOUR: 'it returns false'. Refute it at one input. -/
def fnTableOfSumsWrong : ChangeSpec := { name := "fnTableOfSums", fn := fun _ => fun
  | [d] => { results := [.lit (.bool false)], args := [d] }
  | _ => none }
def FnTableOfSumsWrongFalsely : Prop := fnTableOfSumsRow.holds Try.pinned (OpenSpec.ofChange fnTableOfSumsWrong)

/-- 'laws.FnTableOfAdd': WHATEVER THE INPUT: true; the input reads as it did. -/
def fnTableOfAddSpec : ChangeSpec := { name := "fnTableOfAdd", fn := fun _ => fun
  | [d1, d2] => { results := [.lit (.bool true)], args := [d1, d2] }
  | _ => none }
def fnTableOfAddRow : OpenClaim := { program := "ytflelekpcbmmbaa", sum := "c54ccf1b96b160108634300cc4b1671b6bc964c76c7dd0fb499e345b81177355", func := "loop.example/disclosurecontrol/laws.FnTableOfAdd", spec := "fnTableOfAdd", unfollowed := true, recurses := true, apart := false }
def FnTableOfAddSaid : Prop := fnTableOfAddRow.holds Try.pinned (OpenSpec.ofChange fnTableOfAddSpec)

/-- ITS FALSE NEIGHBOUR: 'it returns false'. Refute it at one input. -/
def fnTableOfAddWrong : ChangeSpec := { name := "fnTableOfAdd", fn := fun _ => fun
  | [d1, d2] => { results := [.lit (.bool false)], args := [d1, d2] }
  | _ => none }
def FnTableOfAddWrongFalsely : Prop := fnTableOfAddRow.holds Try.pinned (OpenSpec.ofChange fnTableOfAddWrong)

/-- 'laws.FnTableFoldAll': WHATEVER THE INPUT: true; the input reads as it did. -/
def fnTableFoldAllSpec : ChangeSpec := { name := "fnTableFoldAll", fn := fun _ => fun
  | [d] => { results := [.lit (.bool true)], args := [d] }
  | _ => none }
def fnTableFoldAllRow : OpenClaim := { program := "ytflelekpcbmmbaa", sum := "c54ccf1b96b160108634300cc4b1671b6bc964c76c7dd0fb499e345b81177355", func := "loop.example/disclosurecontrol/laws.FnTableFoldAll", spec := "fnTableFoldAll", unfollowed := true, recurses := true, apart := false }
def FnTableFoldAllSaid : Prop := fnTableFoldAllRow.holds Try.pinned (OpenSpec.ofChange fnTableFoldAllSpec)

/-- ITS FALSE NEIGHBOUR: 'it returns false'. Refute it at one input. -/
def fnTableFoldAllWrong : ChangeSpec := { name := "fnTableFoldAll", fn := fun _ => fun
  | [d] => { results := [.lit (.bool false)], args := [d] }
  | _ => none }
def FnTableFoldAllWrongFalsely : Prop := fnTableFoldAllRow.holds Try.pinned (OpenSpec.ofChange fnTableFoldAllWrong)

/- THE SECOND FORM. 'bulk': how many values and letters a reading holds, each counted each time it is reached (what is shared counts as often as it is met; a slice's spare places count too). A statement '..UptoSaid' is the law's where the arguments, and the package variables that the reading takes, are together of bulk at most 1048576: NARROWER than '..Said'. Prove '..Said' where nothing that the law and all that it calls make is longer than what came in: it says more and counts as full. Else prove '..UptoSaid'. A law counts once. -/
mutual
def uptoBulk {H : Type} : DataW H → Nat
  | .lit (.string bytes) => bytes.length + 1
  | .lit _ => 1
  | .nil => 1
  | .ptr d => uptoBulk d + 1
  | .slice elems spare => uptoBulkAll elems + uptoBulkAll spare + 1
  | .agg parts => uptoBulkAll parts + 1
  | .iface _ d => uptoBulk d + 1
  | .map entries => uptoBulkEntries entries + 1
  | .held _ => 1
def uptoBulkAll {H : Type} : List (DataW H) → Nat
  | [] => 0
  | d :: r => uptoBulk d + uptoBulkAll r
def uptoBulkEntries {H : Type} : List (Lit × DataW H) → Nat
  | [] => 0
  | x :: r => uptoBulkEntry x + uptoBulkEntries r
def uptoBulkEntry {H : Type} : Lit × DataW H → Nat
  | (.string bytes, d) => bytes.length + uptoBulk d + 1
  | (_, d) => uptoBulk d + 1
 end
def uptoSmall : (H : Type) → List (DataW H) → Bool := fun _ ds => decide (uptoBulkAll ds ≤ 1048576)
def OpenSpec.upto (s : _root_.Go.ChangeSpec) : _root_.Go.OpenSpec := { _root_.Go.OpenSpec.ofChange s with cond := some uptoSmall }

/-- 'laws.FnTableOf', WHERE WHAT IT READS IS OF BULK AT MOST 1048576: true; the input reads as it did. -/
def fnTableOfUptoRow : OpenClaim := { program := "ytflelekpcbmmbaa", sum := "c54ccf1b96b160108634300cc4b1671b6bc964c76c7dd0fb499e345b81177355", func := "loop.example/disclosurecontrol/laws.FnTableOf", spec := "fnTableOf", unfollowed := true, recurses := true, apart := false, narrowed := true }
def FnTableOfUptoSaid : Prop := fnTableOfUptoRow.holds Try.pinned (OpenSpec.upto fnTableOfSpec)

/-- 'laws.FnTableOfMerge', WHERE WHAT IT READS IS OF BULK AT MOST 1048576: true; the input reads as it did. -/
def fnTableOfMergeUptoRow : OpenClaim := { program := "ytflelekpcbmmbaa", sum := "c54ccf1b96b160108634300cc4b1671b6bc964c76c7dd0fb499e345b81177355", func := "loop.example/disclosurecontrol/laws.FnTableOfMerge", spec := "fnTableOfMerge", unfollowed := true, recurses := true, apart := false, narrowed := true }
def FnTableOfMergeUptoSaid : Prop := fnTableOfMergeUptoRow.holds Try.pinned (OpenSpec.upto fnTableOfMergeSpec)

/-- 'laws.FnTableOfSums', WHERE WHAT IT READS IS OF BULK AT MOST 1048576: true; the input reads as it did. -/
def fnTableOfSumsUptoRow : OpenClaim := { program := "ytflelekpcbmmbaa", sum := "c54ccf1b96b160108634300cc4b1671b6bc964c76c7dd0fb499e345b81177355", func := "loop.example/disclosurecontrol/laws.FnTableOfSums", spec := "fnTableOfSums", unfollowed := true, recurses := true, apart := false, narrowed := true }
def FnTableOfSumsUptoSaid : Prop := fnTableOfSumsUptoRow.holds Try.pinned (OpenSpec.upto fnTableOfSumsSpec)

/-- 'laws.FnTableOfAdd', WHERE WHAT IT READS IS OF BULK AT MOST 1048576: true; the input reads as it did. -/
def fnTableOfAddUptoRow : OpenClaim := { program := "ytflelekpcbmmbaa", sum := "c54ccf1b96b160108634300cc4b1671b6bc964c76c7dd0fb499e345b81177355", func := "loop.example/disclosurecontrol/laws.FnTableOfAdd", spec := "fnTableOfAdd", unfollowed := true, recurses := true, apart := false, narrowed := true }
def FnTableOfAddUptoSaid : Prop := fnTableOfAddUptoRow.holds Try.pinned (OpenSpec.upto fnTableOfAddSpec)

/-- 'laws.FnTableFoldAll', WHERE WHAT IT READS IS OF BULK AT MOST 1048576: true; the input reads as it did. -/
def fnTableFoldAllUptoRow : OpenClaim := { program := "ytflelekpcbmmbaa", sum := "c54ccf1b96b160108634300cc4b1671b6bc964c76c7dd0fb499e345b81177355", func := "loop.example/disclosurecontrol/laws.FnTableFoldAll", spec := "fnTableFoldAll", unfollowed := true, recurses := true, apart := false, narrowed := true }
def FnTableFoldAllUptoSaid : Prop := fnTableFoldAllUptoRow.holds Try.pinned (OpenSpec.upto fnTableFoldAllSpec)

end Rows
end Go.Proofs.Ytflelekpcbmmbaa
