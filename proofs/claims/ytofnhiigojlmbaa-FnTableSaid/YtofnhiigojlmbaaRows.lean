/-
  No cell of these rows narrows 'for every input' (looked for: loops, veiled, ifaces, maps, wideKeys, modest, calm, conditions, laid).
  DERIVED. THE GIVEN ROWS OF THIS SEAT. 6 by the template 'for every input the law returns true; each argument reads behind the call as it read before'; 0 by the template 'total and deterministic' (their statements: YtofnhiigojlmbaaTotals.lean).
  GIVEN WITH THE SEED: the statements are not yours to turn. If you find one false, say at which input.
  Laid BY PROGRAM, IN A SANDBOX (cutbox-rows.mjs): the forced cells as the released guide's own fill.sh prints them over the translation d36f6c5d35b61691… (all of the seat's roots in one cut). By AI agents, Wed Nov 11 2026. No macro, syntax, notation, axiom, sorry.
-/
import Derived.Test.YtofnhiigojlmbaaChecked
import GoSem.Claim
import GoSem.ClaimJoined
import GoSem.ClaimMapViews
import Derived.JoinedTies
import Derived.KernelRfl
namespace Go.Proofs.Ytofnhiigojlmbaa
/- THE CELL 'sum', in the pinned program and in every row, IS THE sha256 OF THE DUMP (.gsa) THAT YtofnhiigojlmbaaProg.lean LOADS. Nothing in Lean hashes anything: it is a label: what it is worth is what the hold of that sum in a sandbox is worth. -/
noncomputable def Try.pinned : Pinned := { name := "ytofnhiigojlmbaa", sum := "d36f6c5d35b616914ccd413888ee7c67bfbc31cf61175bbe2f2a9d3ef73f08b3", checked := Try.checked }
namespace Rows
def none {H : Type} : Left H := { results := [], args := [] }

/-- 'laws.FnTable': WHATEVER THE INPUT: true; the input reads as it did. -/
def fnTableSpec : ChangeSpec := { name := "fnTable", fn := fun _ => fun
  | [d1, d2] => { results := [.lit (.bool true)], args := [d1, d2] }
  | _ => none }
def fnTableRow : OpenClaim := { program := "ytofnhiigojlmbaa", sum := "d36f6c5d35b616914ccd413888ee7c67bfbc31cf61175bbe2f2a9d3ef73f08b3", func := "loop.example/disclosurecontrol/laws.FnTable", spec := "fnTable", unfollowed := true, recurses := true, apart := false }
def FnTableSaid : Prop := fnTableRow.holds Try.pinned (OpenSpec.ofChange fnTableSpec)

/-- ITS FALSE NEIGHBOUR: 'it returns false'. Refute it at one input. -/
def fnTableWrong : ChangeSpec := { name := "fnTable", fn := fun _ => fun
  | [d1, d2] => { results := [.lit (.bool false)], args := [d1, d2] }
  | _ => none }
def FnTableWrongFalsely : Prop := fnTableRow.holds Try.pinned (OpenSpec.ofChange fnTableWrong)

/-- 'laws.FnTableOfMerge': WHATEVER THE INPUT: true; the input reads as it did. -/
def fnTableOfMergeSpec : ChangeSpec := { name := "fnTableOfMerge", fn := fun _ => fun
  | [d] => { results := [.lit (.bool true)], args := [d] }
  | _ => none }
def fnTableOfMergeRow : OpenClaim := { program := "ytofnhiigojlmbaa", sum := "d36f6c5d35b616914ccd413888ee7c67bfbc31cf61175bbe2f2a9d3ef73f08b3", func := "loop.example/disclosurecontrol/laws.FnTableOfMerge", spec := "fnTableOfMerge", unfollowed := true, recurses := true, apart := false }
def FnTableOfMergeSaid : Prop := fnTableOfMergeRow.holds Try.pinned (OpenSpec.ofChange fnTableOfMergeSpec)

/-- ITS FALSE NEIGHBOUR: 'it returns false'. Refute it at one input. -/
def fnTableOfMergeWrong : ChangeSpec := { name := "fnTableOfMerge", fn := fun _ => fun
  | [d] => { results := [.lit (.bool false)], args := [d] }
  | _ => none }
def FnTableOfMergeWrongFalsely : Prop := fnTableOfMergeRow.holds Try.pinned (OpenSpec.ofChange fnTableOfMergeWrong)

/-- 'laws.FnMask': WHATEVER THE INPUT: true; the input reads as it did. -/
def fnMaskSpec : ChangeSpec := { name := "fnMask", fn := fun _ => fun
  | [d] => { results := [.lit (.bool true)], args := [d] }
  | _ => none }
def fnMaskRow : OpenClaim := { program := "ytofnhiigojlmbaa", sum := "d36f6c5d35b616914ccd413888ee7c67bfbc31cf61175bbe2f2a9d3ef73f08b3", func := "loop.example/disclosurecontrol/laws.FnMask", spec := "fnMask", unfollowed := true, recurses := true, apart := false }
def FnMaskSaid : Prop := fnMaskRow.holds Try.pinned (OpenSpec.ofChange fnMaskSpec)

/-- ITS FALSE NEIGHBOUR: 'it returns false'. Refute it at one input. -/
def fnMaskWrong : ChangeSpec := { name := "fnMask", fn := fun _ => fun
  | [d] => { results := [.lit (.bool false)], args := [d] }
  | _ => none }
def FnMaskWrongFalsely : Prop := fnMaskRow.holds Try.pinned (OpenSpec.ofChange fnMaskWrong)

/-- 'laws.FnTableOfAdd': WHATEVER THE INPUT: true; the input reads as it did. -/
def fnTableOfAddSpec : ChangeSpec := { name := "fnTableOfAdd", fn := fun _ => fun
  | [d1, d2] => { results := [.lit (.bool true)], args := [d1, d2] }
  | _ => none }
def fnTableOfAddRow : OpenClaim := { program := "ytofnhiigojlmbaa", sum := "d36f6c5d35b616914ccd413888ee7c67bfbc31cf61175bbe2f2a9d3ef73f08b3", func := "loop.example/disclosurecontrol/laws.FnTableOfAdd", spec := "fnTableOfAdd", unfollowed := true, recurses := true, apart := false }
def FnTableOfAddSaid : Prop := fnTableOfAddRow.holds Try.pinned (OpenSpec.ofChange fnTableOfAddSpec)

/-- ITS FALSE NEIGHBOUR: 'it returns false'. Refute it at one input. -/
def fnTableOfAddWrong : ChangeSpec := { name := "fnTableOfAdd", fn := fun _ => fun
  | [d1, d2] => { results := [.lit (.bool false)], args := [d1, d2] }
  | _ => none }
def FnTableOfAddWrongFalsely : Prop := fnTableOfAddRow.holds Try.pinned (OpenSpec.ofChange fnTableOfAddWrong)

/-- 'laws.FnExactTableSums': WHATEVER THE INPUT: true; the input reads as it did. -/
def fnExactTableSumsSpec : ChangeSpec := { name := "fnExactTableSums", fn := fun _ => fun
  | [d] => { results := [.lit (.bool true)], args := [d] }
  | _ => none }
def fnExactTableSumsRow : OpenClaim := { program := "ytofnhiigojlmbaa", sum := "d36f6c5d35b616914ccd413888ee7c67bfbc31cf61175bbe2f2a9d3ef73f08b3", func := "loop.example/disclosurecontrol/laws.FnExactTableSums", spec := "fnExactTableSums", unfollowed := true, recurses := true, apart := false }
def FnExactTableSumsSaid : Prop := fnExactTableSumsRow.holds Try.pinned (OpenSpec.ofChange fnExactTableSumsSpec)

/-- ITS FALSE NEIGHBOUR: 'it returns false'. Refute it at one input. -/
def fnExactTableSumsWrong : ChangeSpec := { name := "fnExactTableSums", fn := fun _ => fun
  | [d] => { results := [.lit (.bool false)], args := [d] }
  | _ => none }
def FnExactTableSumsWrongFalsely : Prop := fnExactTableSumsRow.holds Try.pinned (OpenSpec.ofChange fnExactTableSumsWrong)

/-- 'laws.FnExactMaskSmall': WHATEVER THE INPUT: true; the input reads as it did. -/
def fnExactMaskSmallSpec : ChangeSpec := { name := "fnExactMaskSmall", fn := fun _ => fun
  | [d1, d2] => { results := [.lit (.bool true)], args := [d1, d2] }
  | _ => none }
def fnExactMaskSmallRow : OpenClaim := { program := "ytofnhiigojlmbaa", sum := "d36f6c5d35b616914ccd413888ee7c67bfbc31cf61175bbe2f2a9d3ef73f08b3", func := "loop.example/disclosurecontrol/laws.FnExactMaskSmall", spec := "fnExactMaskSmall", unfollowed := true, recurses := true, apart := false }
def FnExactMaskSmallSaid : Prop := fnExactMaskSmallRow.holds Try.pinned (OpenSpec.ofChange fnExactMaskSmallSpec)

/-- ITS FALSE NEIGHBOUR: 'it returns false'. Refute it at one input. -/
def fnExactMaskSmallWrong : ChangeSpec := { name := "fnExactMaskSmall", fn := fun _ => fun
  | [d1, d2] => { results := [.lit (.bool false)], args := [d1, d2] }
  | _ => none }
def FnExactMaskSmallWrongFalsely : Prop := fnExactMaskSmallRow.holds Try.pinned (OpenSpec.ofChange fnExactMaskSmallWrong)

/- THE SECOND FORM. 'bulk': how many values and letters a reading holds, each counted each time it is reached (what is shared counts as often as it is met; a slice's spare places count too). A statement '..UptoSaid' is the law's where the arguments, and the package variables that the reading takes, are together of bulk at most 1048576: NARROWER than '..Said'. Prove '..Said' where nothing that the law and all that it calls make is longer than what came in: it says more and counts as full. Else prove '..UptoSaid'. A law counts once. -/
mutual
def uptoBulk {H : Type} : DataW H → Nat
  | .lit (.string bytes) => bytes.length + 1
  | .lit _ => 1
  | .nil => 1
  | .ptr d => uptoBulk d + 1
  | .slice elems spare => uptoBulkAll elems + uptoBulkAll spare + 1
  | .agg parts => uptoBulkAll parts + 1
  | .iface _ d => uptoBulk d + 1
  | .map entries => uptoBulkEntries entries + 1
  | .held _ => 1
def uptoBulkAll {H : Type} : List (DataW H) → Nat
  | [] => 0
  | d :: r => uptoBulk d + uptoBulkAll r
def uptoBulkEntries {H : Type} : List (Lit × DataW H) → Nat
  | [] => 0
  | x :: r => uptoBulkEntry x + uptoBulkEntries r
def uptoBulkEntry {H : Type} : Lit × DataW H → Nat
  | (.string bytes, d) => bytes.length + uptoBulk d + 1
  | (_, d) => uptoBulk d + 1
 end
def uptoSmall : (H : Type) → List (DataW H) → Bool := fun _ ds => decide (uptoBulkAll ds ≤ 1048576)
def OpenSpec.upto (s : _root_.Go.ChangeSpec) : _root_.Go.OpenSpec := { _root_.Go.OpenSpec.ofChange s with cond := some uptoSmall }

/-- 'laws.FnTable', WHERE WHAT IT READS IS OF BULK AT MOST 1048576: true; the input reads as it did. -/
def fnTableUptoRow : OpenClaim := { program := "ytofnhiigojlmbaa", sum := "d36f6c5d35b616914ccd413888ee7c67bfbc31cf61175bbe2f2a9d3ef73f08b3", func := "loop.example/disclosurecontrol/laws.FnTable", spec := "fnTable", unfollowed := true, recurses := true, apart := false, narrowed := true }
def FnTableUptoSaid : Prop := fnTableUptoRow.holds Try.pinned (OpenSpec.upto fnTableSpec)

/-- 'laws.FnTableOfMerge', WHERE WHAT IT READS IS OF BULK AT MOST 1048576: true; the input reads as it did. -/
def fnTableOfMergeUptoRow : OpenClaim := { program := "ytofnhiigojlmbaa", sum := "d36f6c5d35b616914ccd413888ee7c67bfbc31cf61175bbe2f2a9d3ef73f08b3", func := "loop.example/disclosurecontrol/laws.FnTableOfMerge", spec := "fnTableOfMerge", unfollowed := true, recurses := true, apart := false, narrowed := true }
def FnTableOfMergeUptoSaid : Prop := fnTableOfMergeUptoRow.holds Try.pinned (OpenSpec.upto fnTableOfMergeSpec)

/-- 'laws.FnMask', WHERE WHAT IT READS IS OF BULK AT MOST 1048576: true; the input reads as it did. -/
def fnMaskUptoRow : OpenClaim := { program := "ytofnhiigojlmbaa", sum := "d36f6c5d35b616914ccd413888ee7c67bfbc31cf61175bbe2f2a9d3ef73f08b3", func := "loop.example/disclosurecontrol/laws.FnMask", spec := "fnMask", unfollowed := true, recurses := true, apart := false, narrowed := true }
def FnMaskUptoSaid : Prop := fnMaskUptoRow.holds Try.pinned (OpenSpec.upto fnMaskSpec)

/-- 'laws.FnTableOfAdd', WHERE WHAT IT READS IS OF BULK AT MOST 1048576: true; the input reads as it did. -/
def fnTableOfAddUptoRow : OpenClaim := { program := "ytofnhiigojlmbaa", sum := "d36f6c5d35b616914ccd413888ee7c67bfbc31cf61175bbe2f2a9d3ef73f08b3", func := "loop.example/disclosurecontrol/laws.FnTableOfAdd", spec := "fnTableOfAdd", unfollowed := true, recurses := true, apart := false, narrowed := true }
def FnTableOfAddUptoSaid : Prop := fnTableOfAddUptoRow.holds Try.pinned (OpenSpec.upto fnTableOfAddSpec)

/-- 'laws.FnExactTableSums', WHERE WHAT IT READS IS OF BULK AT MOST 1048576: true; the input reads as it did. -/
def fnExactTableSumsUptoRow : OpenClaim := { program := "ytofnhiigojlmbaa", sum := "d36f6c5d35b616914ccd413888ee7c67bfbc31cf61175bbe2f2a9d3ef73f08b3", func := "loop.example/disclosurecontrol/laws.FnExactTableSums", spec := "fnExactTableSums", unfollowed := true, recurses := true, apart := false, narrowed := true }
def FnExactTableSumsUptoSaid : Prop := fnExactTableSumsUptoRow.holds Try.pinned (OpenSpec.upto fnExactTableSumsSpec)

/-- 'laws.FnExactMaskSmall', WHERE WHAT IT READS IS OF BULK AT MOST 1048576: true; the input reads as it did. -/
def fnExactMaskSmallUptoRow : OpenClaim := { program := "ytofnhiigojlmbaa", sum := "d36f6c5d35b616914ccd413888ee7c67bfbc31cf61175bbe2f2a9d3ef73f08b3", func := "loop.example/disclosurecontrol/laws.FnExactMaskSmall", spec := "fnExactMaskSmall", unfollowed := true, recurses := true, apart := false, narrowed := true }
def FnExactMaskSmallUptoSaid : Prop := fnExactMaskSmallUptoRow.holds Try.pinned (OpenSpec.upto fnExactMaskSmallSpec)

end Rows
end Go.Proofs.Ytofnhiigojlmbaa
