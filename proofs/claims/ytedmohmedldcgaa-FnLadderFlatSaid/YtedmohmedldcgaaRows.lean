/-
  No cell of these rows narrows 'for every input' (looked for: loops, veiled, ifaces, maps, wideKeys, modest, calm, conditions, laid).
  DERIVED. THE GIVEN ROWS OF THIS SEAT. 11 by the template 'for every input the law returns true; each argument reads behind the call as it read before'; 0 by the template 'total and deterministic' (their statements: YtedmohmedldcgaaTotals.lean).
  GIVEN WITH THE SEED: the statements are not yours to turn. If you find one false, say at which input.
  Laid BY PROGRAM, IN A SANDBOX (cutbox-rows.mjs): the forced cells as the released guide's own fill.sh prints them over the translation 196c58d055dde59a… (all of the seat's roots in one cut). By AI agents, Wed Nov 11 2026. No macro, syntax, notation, axiom, sorry.
-/
import Derived.Test.YtedmohmedldcgaaChecked
import GoSem.Claim
import GoSem.ClaimJoined
import GoSem.ClaimMapViews
import Derived.JoinedTies
import Derived.KernelRfl
namespace Go.Proofs.Ytedmohmedldcgaa
/- THE CELL 'sum', in the pinned program and in every row, IS THE sha256 OF THE DUMP (.gsa) THAT YtedmohmedldcgaaProg.lean LOADS. Nothing in Lean hashes anything: it is a label: what it is worth is what the hold of that sum in a sandbox is worth. -/
noncomputable def Try.pinned : Pinned := { name := "ytedmohmedldcgaa", sum := "196c58d055dde59a26f112ab3a96e354387f249289f0fdb6434b893609db53a8", checked := Try.checked }
namespace Rows
def none {H : Type} : Left H := { results := [], args := [] }

/-- 'laws.FnLadder': WHATEVER THE INPUT: true; the input reads as it did. -/
def fnLadderSpec : ChangeSpec := { name := "fnLadder", fn := fun _ => fun
  | [d1, d2] => { results := [.lit (.bool true)], args := [d1, d2] }
  | _ => none }
def fnLadderRow : OpenClaim := { program := "ytedmohmedldcgaa", sum := "196c58d055dde59a26f112ab3a96e354387f249289f0fdb6434b893609db53a8", func := "loop.example/disclosurecontrol/laws.FnLadder", spec := "fnLadder", apart := false }
def FnLadderSaid : Prop := fnLadderRow.holds Try.pinned (OpenSpec.ofChange fnLadderSpec)

/-- ITS FALSE NEIGHBOUR: 'it returns false'. Refute it at one input. -/
def fnLadderWrong : ChangeSpec := { name := "fnLadder", fn := fun _ => fun
  | [d1, d2] => { results := [.lit (.bool false)], args := [d1, d2] }
  | _ => none }
def FnLadderWrongFalsely : Prop := fnLadderRow.holds Try.pinned (OpenSpec.ofChange fnLadderWrong)

/-- 'laws.FnLadderCode': WHATEVER THE INPUT: true; the input reads as it did. -/
def fnLadderCodeSpec : ChangeSpec := { name := "fnLadderCode", fn := fun _ => fun
  | [d] => { results := [.lit (.bool true)], args := [d] }
  | _ => none }
def fnLadderCodeRow : OpenClaim := { program := "ytedmohmedldcgaa", sum := "196c58d055dde59a26f112ab3a96e354387f249289f0fdb6434b893609db53a8", func := "loop.example/disclosurecontrol/laws.FnLadderCode", spec := "fnLadderCode", apart := false }
def FnLadderCodeSaid : Prop := fnLadderCodeRow.holds Try.pinned (OpenSpec.ofChange fnLadderCodeSpec)

/-- ITS FALSE NEIGHBOUR: 'it returns false'. Refute it at one input. -/
def fnLadderCodeWrong : ChangeSpec := { name := "fnLadderCode", fn := fun _ => fun
  | [d] => { results := [.lit (.bool false)], args := [d] }
  | _ => none }
def FnLadderCodeWrongFalsely : Prop := fnLadderCodeRow.holds Try.pinned (OpenSpec.ofChange fnLadderCodeWrong)

/-- 'laws.FnLadderSame': WHATEVER THE INPUT: true; the input reads as it did. -/
def fnLadderSameSpec : ChangeSpec := { name := "fnLadderSame", fn := fun _ => fun
  | [d] => { results := [.lit (.bool true)], args := [d] }
  | _ => none }
def fnLadderSameRow : OpenClaim := { program := "ytedmohmedldcgaa", sum := "196c58d055dde59a26f112ab3a96e354387f249289f0fdb6434b893609db53a8", func := "loop.example/disclosurecontrol/laws.FnLadderSame", spec := "fnLadderSame", apart := false }
def FnLadderSameSaid : Prop := fnLadderSameRow.holds Try.pinned (OpenSpec.ofChange fnLadderSameSpec)

/-- ITS FALSE NEIGHBOUR: 'it returns false'. Refute it at one input. -/
def fnLadderSameWrong : ChangeSpec := { name := "fnLadderSame", fn := fun _ => fun
  | [d] => { results := [.lit (.bool false)], args := [d] }
  | _ => none }
def FnLadderSameWrongFalsely : Prop := fnLadderSameRow.holds Try.pinned (OpenSpec.ofChange fnLadderSameWrong)

/-- 'laws.FnLadderGroups': WHATEVER THE INPUT: true; the input reads as it did. -/
def fnLadderGroupsSpec : ChangeSpec := { name := "fnLadderGroups", fn := fun _ => fun
  | [d] => { results := [.lit (.bool true)], args := [d] }
  | _ => none }
def fnLadderGroupsRow : OpenClaim := { program := "ytedmohmedldcgaa", sum := "196c58d055dde59a26f112ab3a96e354387f249289f0fdb6434b893609db53a8", func := "loop.example/disclosurecontrol/laws.FnLadderGroups", spec := "fnLadderGroups", apart := false }
def FnLadderGroupsSaid : Prop := fnLadderGroupsRow.holds Try.pinned (OpenSpec.ofChange fnLadderGroupsSpec)

/-- ITS FALSE NEIGHBOUR: 'it returns false'. Refute it at one input. -/
def fnLadderGroupsWrong : ChangeSpec := { name := "fnLadderGroups", fn := fun _ => fun
  | [d] => { results := [.lit (.bool false)], args := [d] }
  | _ => none }
def FnLadderGroupsWrongFalsely : Prop := fnLadderGroupsRow.holds Try.pinned (OpenSpec.ofChange fnLadderGroupsWrong)

/-- 'laws.FnLadderGroupsCodes': WHATEVER THE INPUT: true; the input reads as it did. -/
def fnLadderGroupsCodesSpec : ChangeSpec := { name := "fnLadderGroupsCodes", fn := fun _ => fun
  | [d] => { results := [.lit (.bool true)], args := [d] }
  | _ => none }
def fnLadderGroupsCodesRow : OpenClaim := { program := "ytedmohmedldcgaa", sum := "196c58d055dde59a26f112ab3a96e354387f249289f0fdb6434b893609db53a8", func := "loop.example/disclosurecontrol/laws.FnLadderGroupsCodes", spec := "fnLadderGroupsCodes", apart := false }
def FnLadderGroupsCodesSaid : Prop := fnLadderGroupsCodesRow.holds Try.pinned (OpenSpec.ofChange fnLadderGroupsCodesSpec)

/-- ITS FALSE NEIGHBOUR: 'it returns false'. Refute it at one input. -/
def fnLadderGroupsCodesWrong : ChangeSpec := { name := "fnLadderGroupsCodes", fn := fun _ => fun
  | [d] => { results := [.lit (.bool false)], args := [d] }
  | _ => none }
def FnLadderGroupsCodesWrongFalsely : Prop := fnLadderGroupsCodesRow.holds Try.pinned (OpenSpec.ofChange fnLadderGroupsCodesWrong)

/-- 'laws.FnLadderMerge': WHATEVER THE INPUT: true; the input reads as it did. -/
def fnLadderMergeSpec : ChangeSpec := { name := "fnLadderMerge", fn := fun _ => fun
  | [d] => { results := [.lit (.bool true)], args := [d] }
  | _ => none }
def fnLadderMergeRow : OpenClaim := { program := "ytedmohmedldcgaa", sum := "196c58d055dde59a26f112ab3a96e354387f249289f0fdb6434b893609db53a8", func := "loop.example/disclosurecontrol/laws.FnLadderMerge", spec := "fnLadderMerge", apart := false }
def FnLadderMergeSaid : Prop := fnLadderMergeRow.holds Try.pinned (OpenSpec.ofChange fnLadderMergeSpec)

/-- ITS FALSE NEIGHBOUR: 'it returns false'. Refute it at one input. -/
def fnLadderMergeWrong : ChangeSpec := { name := "fnLadderMerge", fn := fun _ => fun
  | [d] => { results := [.lit (.bool false)], args := [d] }
  | _ => none }
def FnLadderMergeWrongFalsely : Prop := fnLadderMergeRow.holds Try.pinned (OpenSpec.ofChange fnLadderMergeWrong)

/-- 'laws.FnLadderMergeSwap': WHATEVER THE INPUT: true; the input reads as it did. -/
def fnLadderMergeSwapSpec : ChangeSpec := { name := "fnLadderMergeSwap", fn := fun _ => fun
  | [d] => { results := [.lit (.bool true)], args := [d] }
  | _ => none }
def fnLadderMergeSwapRow : OpenClaim := { program := "ytedmohmedldcgaa", sum := "196c58d055dde59a26f112ab3a96e354387f249289f0fdb6434b893609db53a8", func := "loop.example/disclosurecontrol/laws.FnLadderMergeSwap", spec := "fnLadderMergeSwap", apart := false }
def FnLadderMergeSwapSaid : Prop := fnLadderMergeSwapRow.holds Try.pinned (OpenSpec.ofChange fnLadderMergeSwapSpec)

/-- ITS FALSE NEIGHBOUR: 'it returns false'. Refute it at one input. -/
def fnLadderMergeSwapWrong : ChangeSpec := { name := "fnLadderMergeSwap", fn := fun _ => fun
  | [d] => { results := [.lit (.bool false)], args := [d] }
  | _ => none }
def FnLadderMergeSwapWrongFalsely : Prop := fnLadderMergeSwapRow.holds Try.pinned (OpenSpec.ofChange fnLadderMergeSwapWrong)

/-- 'laws.FnLadderLeast': WHATEVER THE INPUT: true; the input reads as it did. -/
def fnLadderLeastSpec : ChangeSpec := { name := "fnLadderLeast", fn := fun _ => fun
  | [d1, d2] => { results := [.lit (.bool true)], args := [d1, d2] }
  | _ => none }
def fnLadderLeastRow : OpenClaim := { program := "ytedmohmedldcgaa", sum := "196c58d055dde59a26f112ab3a96e354387f249289f0fdb6434b893609db53a8", func := "loop.example/disclosurecontrol/laws.FnLadderLeast", spec := "fnLadderLeast", apart := false }
def FnLadderLeastSaid : Prop := fnLadderLeastRow.holds Try.pinned (OpenSpec.ofChange fnLadderLeastSpec)

/-- ITS FALSE NEIGHBOUR: 'it returns false'. Refute it at one input. -/
def fnLadderLeastWrong : ChangeSpec := { name := "fnLadderLeast", fn := fun _ => fun
  | [d1, d2] => { results := [.lit (.bool false)], args := [d1, d2] }
  | _ => none }
def FnLadderLeastWrongFalsely : Prop := fnLadderLeastRow.holds Try.pinned (OpenSpec.ofChange fnLadderLeastWrong)

/-- 'laws.FnLadderMergeAll': WHATEVER THE INPUT: true; the input reads as it did. -/
def fnLadderMergeAllSpec : ChangeSpec := { name := "fnLadderMergeAll", fn := fun _ => fun
  | [d] => { results := [.lit (.bool true)], args := [d] }
  | _ => none }
def fnLadderMergeAllRow : OpenClaim := { program := "ytedmohmedldcgaa", sum := "196c58d055dde59a26f112ab3a96e354387f249289f0fdb6434b893609db53a8", func := "loop.example/disclosurecontrol/laws.FnLadderMergeAll", spec := "fnLadderMergeAll", apart := false }
def FnLadderMergeAllSaid : Prop := fnLadderMergeAllRow.holds Try.pinned (OpenSpec.ofChange fnLadderMergeAllSpec)

/-- ITS FALSE NEIGHBOUR: 'it returns false'. Refute it at one input. -/
def fnLadderMergeAllWrong : ChangeSpec := { name := "fnLadderMergeAll", fn := fun _ => fun
  | [d] => { results := [.lit (.bool false)], args := [d] }
  | _ => none }
def FnLadderMergeAllWrongFalsely : Prop := fnLadderMergeAllRow.holds Try.pinned (OpenSpec.ofChange fnLadderMergeAllWrong)

/-- 'laws.FnLadderMergeSame': WHATEVER THE INPUT: true; the input reads as it did. -/
def fnLadderMergeSameSpec : ChangeSpec := { name := "fnLadderMergeSame", fn := fun _ => fun
  | [d] => { results := [.lit (.bool true)], args := [d] }
  | _ => none }
def fnLadderMergeSameRow : OpenClaim := { program := "ytedmohmedldcgaa", sum := "196c58d055dde59a26f112ab3a96e354387f249289f0fdb6434b893609db53a8", func := "loop.example/disclosurecontrol/laws.FnLadderMergeSame", spec := "fnLadderMergeSame", apart := false }
def FnLadderMergeSameSaid : Prop := fnLadderMergeSameRow.holds Try.pinned (OpenSpec.ofChange fnLadderMergeSameSpec)

/-- ITS FALSE NEIGHBOUR: 'it returns false'. Refute it at one input. -/
def fnLadderMergeSameWrong : ChangeSpec := { name := "fnLadderMergeSame", fn := fun _ => fun
  | [d] => { results := [.lit (.bool false)], args := [d] }
  | _ => none }
def FnLadderMergeSameWrongFalsely : Prop := fnLadderMergeSameRow.holds Try.pinned (OpenSpec.ofChange fnLadderMergeSameWrong)

/-- 'laws.FnLadderFlat': WHATEVER THE INPUT: true; the input reads as it did. -/
def fnLadderFlatSpec : ChangeSpec := { name := "fnLadderFlat", fn := fun _ => fun
  | [d] => { results := [.lit (.bool true)], args := [d] }
  | _ => none }
def fnLadderFlatRow : OpenClaim := { program := "ytedmohmedldcgaa", sum := "196c58d055dde59a26f112ab3a96e354387f249289f0fdb6434b893609db53a8", func := "loop.example/disclosurecontrol/laws.FnLadderFlat", spec := "fnLadderFlat", apart := false }
def FnLadderFlatSaid : Prop := fnLadderFlatRow.holds Try.pinned (OpenSpec.ofChange fnLadderFlatSpec)

/-- ITS FALSE NEIGHBOUR: 'it returns false'. Refute it at one input. -/
def fnLadderFlatWrong : ChangeSpec := { name := "fnLadderFlat", fn := fun _ => fun
  | [d] => { results := [.lit (.bool false)], args := [d] }
  | _ => none }
def FnLadderFlatWrongFalsely : Prop := fnLadderFlatRow.holds Try.pinned (OpenSpec.ofChange fnLadderFlatWrong)

/- THE SECOND FORM. 'bulk': how many values and letters a reading holds, each counted each time it is reached (what is shared counts as often as it is met; a slice's spare places count too). A statement '..UptoSaid' is the law's where the arguments, and the package variables that the reading takes, are together of bulk at most 1048576: NARROWER than '..Said'. Prove '..Said' where nothing that the law and all that it calls make is longer than what came in: it says more and counts as full. Else prove '..UptoSaid'. A law counts once. -/
mutual
def uptoBulk {H : Type} : DataW H → Nat
  | .lit (.string bytes) => bytes.length + 1
  | .lit _ => 1
  | .nil => 1
  | .ptr d => uptoBulk d + 1
  | .slice elems spare => uptoBulkAll elems + uptoBulkAll spare + 1
  | .agg parts => uptoBulkAll parts + 1
  | .iface _ d => uptoBulk d + 1
  | .map entries => uptoBulkEntries entries + 1
  | .held _ => 1
def uptoBulkAll {H : Type} : List (DataW H) → Nat
  | [] => 0
  | d :: r => uptoBulk d + uptoBulkAll r
def uptoBulkEntries {H : Type} : List (Lit × DataW H) → Nat
  | [] => 0
  | x :: r => uptoBulkEntry x + uptoBulkEntries r
def uptoBulkEntry {H : Type} : Lit × DataW H → Nat
  | (.string bytes, d) => bytes.length + uptoBulk d + 1
  | (_, d) => uptoBulk d + 1
 end
def uptoSmall : (H : Type) → List (DataW H) → Bool := fun _ ds => decide (uptoBulkAll ds ≤ 1048576)
def OpenSpec.upto (s : _root_.Go.ChangeSpec) : _root_.Go.OpenSpec := { _root_.Go.OpenSpec.ofChange s with cond := some uptoSmall }

/-- 'laws.FnLadder', WHERE WHAT IT READS IS OF BULK AT MOST 1048576: true; the input reads as it did. -/
def fnLadderUptoRow : OpenClaim := { program := "ytedmohmedldcgaa", sum := "196c58d055dde59a26f112ab3a96e354387f249289f0fdb6434b893609db53a8", func := "loop.example/disclosurecontrol/laws.FnLadder", spec := "fnLadder", apart := false, narrowed := true }
def FnLadderUptoSaid : Prop := fnLadderUptoRow.holds Try.pinned (OpenSpec.upto fnLadderSpec)

/-- 'laws.FnLadderCode', WHERE WHAT IT READS IS OF BULK AT MOST 1048576: true; the input reads as it did. -/
def fnLadderCodeUptoRow : OpenClaim := { program := "ytedmohmedldcgaa", sum := "196c58d055dde59a26f112ab3a96e354387f249289f0fdb6434b893609db53a8", func := "loop.example/disclosurecontrol/laws.FnLadderCode", spec := "fnLadderCode", apart := false, narrowed := true }
def FnLadderCodeUptoSaid : Prop := fnLadderCodeUptoRow.holds Try.pinned (OpenSpec.upto fnLadderCodeSpec)

/-- 'laws.FnLadderSame', WHERE WHAT IT READS IS OF BULK AT MOST 1048576: true; the input reads as it did. -/
def fnLadderSameUptoRow : OpenClaim := { program := "ytedmohmedldcgaa", sum := "196c58d055dde59a26f112ab3a96e354387f249289f0fdb6434b893609db53a8", func := "loop.example/disclosurecontrol/laws.FnLadderSame", spec := "fnLadderSame", apart := false, narrowed := true }
def FnLadderSameUptoSaid : Prop := fnLadderSameUptoRow.holds Try.pinned (OpenSpec.upto fnLadderSameSpec)

/-- 'laws.FnLadderGroups', WHERE WHAT IT READS IS OF BULK AT MOST 1048576: true; the input reads as it did. -/
def fnLadderGroupsUptoRow : OpenClaim := { program := "ytedmohmedldcgaa", sum := "196c58d055dde59a26f112ab3a96e354387f249289f0fdb6434b893609db53a8", func := "loop.example/disclosurecontrol/laws.FnLadderGroups", spec := "fnLadderGroups", apart := false, narrowed := true }
def FnLadderGroupsUptoSaid : Prop := fnLadderGroupsUptoRow.holds Try.pinned (OpenSpec.upto fnLadderGroupsSpec)

/-- 'laws.FnLadderGroupsCodes', WHERE WHAT IT READS IS OF BULK AT MOST 1048576: true; the input reads as it did. -/
def fnLadderGroupsCodesUptoRow : OpenClaim := { program := "ytedmohmedldcgaa", sum := "196c58d055dde59a26f112ab3a96e354387f249289f0fdb6434b893609db53a8", func := "loop.example/disclosurecontrol/laws.FnLadderGroupsCodes", spec := "fnLadderGroupsCodes", apart := false, narrowed := true }
def FnLadderGroupsCodesUptoSaid : Prop := fnLadderGroupsCodesUptoRow.holds Try.pinned (OpenSpec.upto fnLadderGroupsCodesSpec)

/-- 'laws.FnLadderMerge', WHERE WHAT IT READS IS OF BULK AT MOST 1048576: true; the input reads as it did. -/
def fnLadderMergeUptoRow : OpenClaim := { program := "ytedmohmedldcgaa", sum := "196c58d055dde59a26f112ab3a96e354387f249289f0fdb6434b893609db53a8", func := "loop.example/disclosurecontrol/laws.FnLadderMerge", spec := "fnLadderMerge", apart := false, narrowed := true }
def FnLadderMergeUptoSaid : Prop := fnLadderMergeUptoRow.holds Try.pinned (OpenSpec.upto fnLadderMergeSpec)

/-- 'laws.FnLadderMergeSwap', WHERE WHAT IT READS IS OF BULK AT MOST 1048576: true; the input reads as it did. -/
def fnLadderMergeSwapUptoRow : OpenClaim := { program := "ytedmohmedldcgaa", sum := "196c58d055dde59a26f112ab3a96e354387f249289f0fdb6434b893609db53a8", func := "loop.example/disclosurecontrol/laws.FnLadderMergeSwap", spec := "fnLadderMergeSwap", apart := false, narrowed := true }
def FnLadderMergeSwapUptoSaid : Prop := fnLadderMergeSwapUptoRow.holds Try.pinned (OpenSpec.upto fnLadderMergeSwapSpec)

/-- 'laws.FnLadderLeast', WHERE WHAT IT READS IS OF BULK AT MOST 1048576: true; the input reads as it did. -/
def fnLadderLeastUptoRow : OpenClaim := { program := "ytedmohmedldcgaa", sum := "196c58d055dde59a26f112ab3a96e354387f249289f0fdb6434b893609db53a8", func := "loop.example/disclosurecontrol/laws.FnLadderLeast", spec := "fnLadderLeast", apart := false, narrowed := true }
def FnLadderLeastUptoSaid : Prop := fnLadderLeastUptoRow.holds Try.pinned (OpenSpec.upto fnLadderLeastSpec)

/-- 'laws.FnLadderMergeAll', WHERE WHAT IT READS IS OF BULK AT MOST 1048576: true; the input reads as it did. -/
def fnLadderMergeAllUptoRow : OpenClaim := { program := "ytedmohmedldcgaa", sum := "196c58d055dde59a26f112ab3a96e354387f249289f0fdb6434b893609db53a8", func := "loop.example/disclosurecontrol/laws.FnLadderMergeAll", spec := "fnLadderMergeAll", apart := false, narrowed := true }
def FnLadderMergeAllUptoSaid : Prop := fnLadderMergeAllUptoRow.holds Try.pinned (OpenSpec.upto fnLadderMergeAllSpec)

/-- 'laws.FnLadderMergeSame', WHERE WHAT IT READS IS OF BULK AT MOST 1048576: true; the input reads as it did. -/
def fnLadderMergeSameUptoRow : OpenClaim := { program := "ytedmohmedldcgaa", sum := "196c58d055dde59a26f112ab3a96e354387f249289f0fdb6434b893609db53a8", func := "loop.example/disclosurecontrol/laws.FnLadderMergeSame", spec := "fnLadderMergeSame", apart := false, narrowed := true }
def FnLadderMergeSameUptoSaid : Prop := fnLadderMergeSameUptoRow.holds Try.pinned (OpenSpec.upto fnLadderMergeSameSpec)

/-- 'laws.FnLadderFlat', WHERE WHAT IT READS IS OF BULK AT MOST 1048576: true; the input reads as it did. -/
def fnLadderFlatUptoRow : OpenClaim := { program := "ytedmohmedldcgaa", sum := "196c58d055dde59a26f112ab3a96e354387f249289f0fdb6434b893609db53a8", func := "loop.example/disclosurecontrol/laws.FnLadderFlat", spec := "fnLadderFlat", apart := false, narrowed := true }
def FnLadderFlatUptoSaid : Prop := fnLadderFlatUptoRow.holds Try.pinned (OpenSpec.upto fnLadderFlatSpec)

end Rows
end Go.Proofs.Ytedmohmedldcgaa
