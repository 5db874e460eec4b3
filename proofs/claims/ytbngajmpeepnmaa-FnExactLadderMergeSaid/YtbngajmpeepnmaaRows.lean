/-
  No cell of these rows narrows 'for every input' (looked for: loops, veiled, ifaces, maps, wideKeys, modest, calm, conditions, laid).
  DERIVED. THE GIVEN ROWS OF THIS SEAT. 6 by the template 'for every input the law returns true; each argument reads behind the call as it read before'; 0 by the template 'total and deterministic' (their statements: YtbngajmpeepnmaaTotals.lean).
  GIVEN WITH THE SEED: the statements are not yours to turn. If you find one false, say at which input.
  Laid BY PROGRAM, IN A SANDBOX (cutbox-rows.mjs): the forced cells as the released guide's own fill.sh prints them over the translation cb6007fb22769371… (all of the seat's roots in one cut). By AI agents, Wed Nov 11 2026. No macro, syntax, notation, axiom, sorry.
-/
import Derived.Test.YtbngajmpeepnmaaChecked
import GoSem.Claim
import GoSem.ClaimJoined
import GoSem.ClaimMapViews
import Derived.JoinedTies
import Derived.KernelRfl
namespace Go.Proofs.Ytbngajmpeepnmaa
/- THE CELL 'sum', in the pinned program and in every row, IS THE sha256 OF THE DUMP (.gsa) THAT YtbngajmpeepnmaaProg.lean LOADS. Nothing in Lean hashes anything: it is a label: what it is worth is what the hold of that sum in a sandbox is worth. -/
noncomputable def Try.pinned : Pinned := { name := "ytbngajmpeepnmaa", sum := "cb6007fb227693712ad062330670679afd0f6f15cb5af9aa21a402b512f8a137", checked := Try.checked }
namespace Rows
def none {H : Type} : Left H := { results := [], args := [] }

/-- 'laws.FnLadderFirst': WHATEVER THE INPUT: true; the input reads as it did. -/
def fnLadderFirstSpec : ChangeSpec := { name := "fnLadderFirst", fn := fun _ => fun
  | [d] => { results := [.lit (.bool true)], args := [d] }
  | _ => none }
def fnLadderFirstRow : OpenClaim := { program := "ytbngajmpeepnmaa", sum := "cb6007fb227693712ad062330670679afd0f6f15cb5af9aa21a402b512f8a137", func := "loop.example/disclosurecontrol/laws.FnLadderFirst", spec := "fnLadderFirst", apart := false }
def FnLadderFirstSaid : Prop := fnLadderFirstRow.holds Try.pinned (OpenSpec.ofChange fnLadderFirstSpec)

/-- ITS FALSE NEIGHBOUR: 'it returns false'. Refute it at one input. -/
def fnLadderFirstWrong : ChangeSpec := { name := "fnLadderFirst", fn := fun _ => fun
  | [d] => { results := [.lit (.bool false)], args := [d] }
  | _ => none }
def FnLadderFirstWrongFalsely : Prop := fnLadderFirstRow.holds Try.pinned (OpenSpec.ofChange fnLadderFirstWrong)

/-- 'laws.FnLadderGroupsMerge': WHATEVER THE INPUT: true; the input reads as it did. -/
def fnLadderGroupsMergeSpec : ChangeSpec := { name := "fnLadderGroupsMerge", fn := fun _ => fun
  | [d] => { results := [.lit (.bool true)], args := [d] }
  | _ => none }
def fnLadderGroupsMergeRow : OpenClaim := { program := "ytbngajmpeepnmaa", sum := "cb6007fb227693712ad062330670679afd0f6f15cb5af9aa21a402b512f8a137", func := "loop.example/disclosurecontrol/laws.FnLadderGroupsMerge", spec := "fnLadderGroupsMerge", apart := false }
def FnLadderGroupsMergeSaid : Prop := fnLadderGroupsMergeRow.holds Try.pinned (OpenSpec.ofChange fnLadderGroupsMergeSpec)

/-- ITS FALSE NEIGHBOUR: 'it returns false'. Refute it at one input. -/
def fnLadderGroupsMergeWrong : ChangeSpec := { name := "fnLadderGroupsMerge", fn := fun _ => fun
  | [d] => { results := [.lit (.bool false)], args := [d] }
  | _ => none }
def FnLadderGroupsMergeWrongFalsely : Prop := fnLadderGroupsMergeRow.holds Try.pinned (OpenSpec.ofChange fnLadderGroupsMergeWrong)

/-- 'laws.FnExactLadderValid': WHATEVER THE INPUT: true; the input reads as it did. -/
def fnExactLadderValidSpec : ChangeSpec := { name := "fnExactLadderValid", fn := fun _ => fun
  | [d] => { results := [.lit (.bool true)], args := [d] }
  | _ => none }
def fnExactLadderValidRow : OpenClaim := { program := "ytbngajmpeepnmaa", sum := "cb6007fb227693712ad062330670679afd0f6f15cb5af9aa21a402b512f8a137", func := "loop.example/disclosurecontrol/laws.FnExactLadderValid", spec := "fnExactLadderValid", apart := false }
def FnExactLadderValidSaid : Prop := fnExactLadderValidRow.holds Try.pinned (OpenSpec.ofChange fnExactLadderValidSpec)

/-- ITS FALSE NEIGHBOUR: 'it returns false'. Refute it at one input. -/
def fnExactLadderValidWrong : ChangeSpec := { name := "fnExactLadderValid", fn := fun _ => fun
  | [d] => { results := [.lit (.bool false)], args := [d] }
  | _ => none }
def FnExactLadderValidWrongFalsely : Prop := fnExactLadderValidRow.holds Try.pinned (OpenSpec.ofChange fnExactLadderValidWrong)

/-- 'laws.FnExactLadderCode': WHATEVER THE INPUT: true; the input reads as it did. -/
def fnExactLadderCodeSpec : ChangeSpec := { name := "fnExactLadderCode", fn := fun _ => fun
  | [d1, d2, d3] => { results := [.lit (.bool true)], args := [d1, d2, d3] }
  | _ => none }
def fnExactLadderCodeRow : OpenClaim := { program := "ytbngajmpeepnmaa", sum := "cb6007fb227693712ad062330670679afd0f6f15cb5af9aa21a402b512f8a137", func := "loop.example/disclosurecontrol/laws.FnExactLadderCode", spec := "fnExactLadderCode", apart := false }
def FnExactLadderCodeSaid : Prop := fnExactLadderCodeRow.holds Try.pinned (OpenSpec.ofChange fnExactLadderCodeSpec)

/-- ITS FALSE NEIGHBOUR: 'it returns false'. Refute it at one input. -/
def fnExactLadderCodeWrong : ChangeSpec := { name := "fnExactLadderCode", fn := fun _ => fun
  | [d1, d2, d3] => { results := [.lit (.bool false)], args := [d1, d2, d3] }
  | _ => none }
def FnExactLadderCodeWrongFalsely : Prop := fnExactLadderCodeRow.holds Try.pinned (OpenSpec.ofChange fnExactLadderCodeWrong)

/-- 'laws.FnExactLadderGroups': WHATEVER THE INPUT: true; the input reads as it did. -/
def fnExactLadderGroupsSpec : ChangeSpec := { name := "fnExactLadderGroups", fn := fun _ => fun
  | [d1, d2] => { results := [.lit (.bool true)], args := [d1, d2] }
  | _ => none }
def fnExactLadderGroupsRow : OpenClaim := { program := "ytbngajmpeepnmaa", sum := "cb6007fb227693712ad062330670679afd0f6f15cb5af9aa21a402b512f8a137", func := "loop.example/disclosurecontrol/laws.FnExactLadderGroups", spec := "fnExactLadderGroups", apart := false }
def FnExactLadderGroupsSaid : Prop := fnExactLadderGroupsRow.holds Try.pinned (OpenSpec.ofChange fnExactLadderGroupsSpec)

/-- ITS FALSE NEIGHBOUR: 'it returns false'. Refute it at one input. -/
def fnExactLadderGroupsWrong : ChangeSpec := { name := "fnExactLadderGroups", fn := fun _ => fun
  | [d1, d2] => { results := [.lit (.bool false)], args := [d1, d2] }
  | _ => none }
def FnExactLadderGroupsWrongFalsely : Prop := fnExactLadderGroupsRow.holds Try.pinned (OpenSpec.ofChange fnExactLadderGroupsWrong)

/-- 'laws.FnExactLadderMerge': WHATEVER THE INPUT: true; the input reads as it did. -/
def fnExactLadderMergeSpec : ChangeSpec := { name := "fnExactLadderMerge", fn := fun _ => fun
  | [d1, d2, d3] => { results := [.lit (.bool true)], args := [d1, d2, d3] }
  | _ => none }
def fnExactLadderMergeRow : OpenClaim := { program := "ytbngajmpeepnmaa", sum := "cb6007fb227693712ad062330670679afd0f6f15cb5af9aa21a402b512f8a137", func := "loop.example/disclosurecontrol/laws.FnExactLadderMerge", spec := "fnExactLadderMerge", apart := false }
def FnExactLadderMergeSaid : Prop := fnExactLadderMergeRow.holds Try.pinned (OpenSpec.ofChange fnExactLadderMergeSpec)

/-- ITS FALSE NEIGHBOUR: 'it returns false'. Refute it at one input. -/
def fnExactLadderMergeWrong : ChangeSpec := { name := "fnExactLadderMerge", fn := fun _ => fun
  | [d1, d2, d3] => { results := [.lit (.bool false)], args := [d1, d2, d3] }
  | _ => none }
def FnExactLadderMergeWrongFalsely : Prop := fnExactLadderMergeRow.holds Try.pinned (OpenSpec.ofChange fnExactLadderMergeWrong)

/- THE SECOND FORM. 'bulk': how many values and letters a reading holds, each counted each time it is reached (what is shared counts as often as it is met; a slice's spare places count too). A statement '..UptoSaid' is the law's where the arguments, and the package variables that the reading takes, are together of bulk at most 1048576: NARROWER than '..Said'. Prove '..Said' where nothing that the law and all that it calls make is longer than what came in: it says more and counts as full. Else prove '..UptoSaid'. A law counts once. -/
mutual
def uptoBulk {H : Type} : DataW H → Nat
  | .lit (.string bytes) => bytes.length + 1
  | .lit _ => 1
  | .nil => 1
  | .ptr d => uptoBulk d + 1
  | .slice elems spare => uptoBulkAll elems + uptoBulkAll spare + 1
  | .agg parts => uptoBulkAll parts + 1
  | .iface _ d => uptoBulk d + 1
  | .map entries => uptoBulkEntries entries + 1
  | .held _ => 1
def uptoBulkAll {H : Type} : List (DataW H) → Nat
  | [] => 0
  | d :: r => uptoBulk d + uptoBulkAll r
def uptoBulkEntries {H : Type} : List (Lit × DataW H) → Nat
  | [] => 0
  | x :: r => uptoBulkEntry x + uptoBulkEntries r
def uptoBulkEntry {H : Type} : Lit × DataW H → Nat
  | (.string bytes, d) => bytes.length + uptoBulk d + 1
  | (_, d) => uptoBulk d + 1
 end
def uptoSmall : (H : Type) → List (DataW H) → Bool := fun _ ds => decide (uptoBulkAll ds ≤ 1048576)
def OpenSpec.upto (s : _root_.Go.ChangeSpec) : _root_.Go.OpenSpec := { _root_.Go.OpenSpec.ofChange s with cond := some uptoSmall }

/-- 'laws.FnLadderFirst', WHERE WHAT IT READS IS OF BULK AT MOST 1048576: true; the input reads as it did. -/
def fnLadderFirstUptoRow : OpenClaim := { program := "ytbngajmpeepnmaa", sum := "cb6007fb227693712ad062330670679afd0f6f15cb5af9aa21a402b512f8a137", func := "loop.example/disclosurecontrol/laws.FnLadderFirst", spec := "fnLadderFirst", apart := false, narrowed := true }
def FnLadderFirstUptoSaid : Prop := fnLadderFirstUptoRow.holds Try.pinned (OpenSpec.upto fnLadderFirstSpec)

/-- 'laws.FnLadderGroupsMerge', WHERE WHAT IT READS IS OF BULK AT MOST 1048576: true; the input reads as it did. -/
def fnLadderGroupsMergeUptoRow : OpenClaim := { program := "ytbngajmpeepnmaa", sum := "cb6007fb227693712ad062330670679afd0f6f15cb5af9aa21a402b512f8a137", func := "loop.example/disclosurecontrol/laws.FnLadderGroupsMerge", spec := "fnLadderGroupsMerge", apart := false, narrowed := true }
def FnLadderGroupsMergeUptoSaid : Prop := fnLadderGroupsMergeUptoRow.holds Try.pinned (OpenSpec.upto fnLadderGroupsMergeSpec)

/-- 'laws.FnExactLadderValid', WHERE WHAT IT READS IS OF BULK AT MOST 1048576: true; the input reads as it did. -/
def fnExactLadderValidUptoRow : OpenClaim := { program := "ytbngajmpeepnmaa", sum := "cb6007fb227693712ad062330670679afd0f6f15cb5af9aa21a402b512f8a137", func := "loop.example/disclosurecontrol/laws.FnExactLadderValid", spec := "fnExactLadderValid", apart := false, narrowed := true }
def FnExactLadderValidUptoSaid : Prop := fnExactLadderValidUptoRow.holds Try.pinned (OpenSpec.upto fnExactLadderValidSpec)

/-- 'laws.FnExactLadderCode', WHERE WHAT IT READS IS OF BULK AT MOST 1048576: true; the input reads as it did. -/
def fnExactLadderCodeUptoRow : OpenClaim := { program := "ytbngajmpeepnmaa", sum := "cb6007fb227693712ad062330670679afd0f6f15cb5af9aa21a402b512f8a137", func := "loop.example/disclosurecontrol/laws.FnExactLadderCode", spec := "fnExactLadderCode", apart := false, narrowed := true }
def FnExactLadderCodeUptoSaid : Prop := fnExactLadderCodeUptoRow.holds Try.pinned (OpenSpec.upto fnExactLadderCodeSpec)

/-- 'laws.FnExactLadderGroups', WHERE WHAT IT READS IS OF BULK AT MOST 1048576: true; the input reads as it did. -/
def fnExactLadderGroupsUptoRow : OpenClaim := { program := "ytbngajmpeepnmaa", sum := "cb6007fb227693712ad062330670679afd0f6f15cb5af9aa21a402b512f8a137", func := "loop.example/disclosurecontrol/laws.FnExactLadderGroups", spec := "fnExactLadderGroups", apart := false, narrowed := true }
def FnExactLadderGroupsUptoSaid : Prop := fnExactLadderGroupsUptoRow.holds Try.pinned (OpenSpec.upto fnExactLadderGroupsSpec)

/-- 'laws.FnExactLadderMerge', WHERE WHAT IT READS IS OF BULK AT MOST 1048576: true; the input reads as it did. -/
def fnExactLadderMergeUptoRow : OpenClaim := { program := "ytbngajmpeepnmaa", sum := "cb6007fb227693712ad062330670679afd0f6f15cb5af9aa21a402b512f8a137", func := "loop.example/disclosurecontrol/laws.FnExactLadderMerge", spec := "fnExactLadderMerge", apart := false, narrowed := true }
def FnExactLadderMergeUptoSaid : Prop := fnExactLadderMergeUptoRow.holds Try.pinned (OpenSpec.upto fnExactLadderMergeSpec)

end Rows
end Go.Proofs.Ytbngajmpeepnmaa
