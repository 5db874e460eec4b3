/-
  No cell of these rows narrows 'for every input' (looked for: loops, veiled, ifaces, maps, wideKeys, modest, calm, conditions, laid).
  DERIVED. THE GIVEN ROWS OF THIS SEAT. 7 by the template 'for every input the law returns true; each argument reads behind the call as it read before'; 0 by the template 'total and deterministic' (their statements: YtbkhkmhfbmddmaaTotals.lean).
  GIVEN WITH THE SEED: the statements are not yours to turn. If you find one false, say at which input.
  Laid BY PROGRAM, IN A SANDBOX (cutbox-rows.mjs): the forced cells as the released guide's own fill.sh prints them over the translation 0540d7e87dbb8c09… (all of the seat's roots in one cut). By AI agents, Wed Nov 11 2026. No macro, syntax, notation, axiom, sorry.
-/
import Derived.Test.YtbkhkmhfbmddmaaChecked
import GoSem.Claim
import GoSem.ClaimJoined
import GoSem.ClaimMapViews
import Derived.JoinedTies
import Derived.KernelRfl
namespace Go.Proofs.Ytbkhkmhfbmddmaa
/- THE CELL 'sum', in the pinned program and in every row, IS THE sha256 OF THE DUMP (.gsa) THAT YtbkhkmhfbmddmaaProg.lean LOADS. Nothing in Lean hashes anything: it is a label: what it is worth is what the hold of that sum in a sandbox is worth. -/
noncomputable def Try.pinned : Pinned := { name := "ytbkhkmhfbmddmaa", sum := "0540d7e87dbb8c09b65c5cf1e256bb44bda1129a197318a4c00cbe1fbcb2876e", checked := Try.checked }
namespace Rows
def none {H : Type} : Left H := { results := [], args := [] }

/-- 'laws.FnExactRecodeValid': WHATEVER THE INPUT: true; the input reads as it did. -/
def fnExactRecodeValidSpec : ChangeSpec := { name := "fnExactRecodeValid", fn := fun _ => fun
  | [d1, d2] => { results := [.lit (.bool true)], args := [d1, d2] }
  | _ => none }
def fnExactRecodeValidRow : OpenClaim := { program := "ytbkhkmhfbmddmaa", sum := "0540d7e87dbb8c09b65c5cf1e256bb44bda1129a197318a4c00cbe1fbcb2876e", func := "loop.example/disclosurecontrol/laws.FnExactRecodeValid", spec := "fnExactRecodeValid", plainKeys := false, apart := false }
def FnExactRecodeValidSaid : Prop := fnExactRecodeValidRow.holds Try.pinned (OpenSpec.ofChange fnExactRecodeValidSpec)

/-- ITS FALSE NEIGHBOUR: 'it returns false'. Refute it at one input. -/
def fnExactRecodeValidWrong : ChangeSpec := { name := "fnExactRecodeValid", fn := fun _ => fun
  | [d1, d2] => { results := [.lit (.bool false)], args := [d1, d2] }
  | _ => none }
def FnExactRecodeValidWrongFalsely : Prop := fnExactRecodeValidRow.holds Try.pinned (OpenSpec.ofChange fnExactRecodeValidWrong)

/-- 'laws.FnExactRecodePeople': WHATEVER THE INPUT: true; the input reads as it did. -/
def fnExactRecodePeopleSpec : ChangeSpec := { name := "fnExactRecodePeople", fn := fun _ => fun
  | [d1, d2, d3] => { results := [.lit (.bool true)], args := [d1, d2, d3] }
  | _ => none }
def fnExactRecodePeopleRow : OpenClaim := { program := "ytbkhkmhfbmddmaa", sum := "0540d7e87dbb8c09b65c5cf1e256bb44bda1129a197318a4c00cbe1fbcb2876e", func := "loop.example/disclosurecontrol/laws.FnExactRecodePeople", spec := "fnExactRecodePeople", plainKeys := false, apart := false }
def FnExactRecodePeopleSaid : Prop := fnExactRecodePeopleRow.holds Try.pinned (OpenSpec.ofChange fnExactRecodePeopleSpec)

/-- ITS FALSE NEIGHBOUR: 'it returns false'. Refute it at one input. -/
def fnExactRecodePeopleWrong : ChangeSpec := { name := "fnExactRecodePeople", fn := fun _ => fun
  | [d1, d2, d3] => { results := [.lit (.bool false)], args := [d1, d2, d3] }
  | _ => none }
def FnExactRecodePeopleWrongFalsely : Prop := fnExactRecodePeopleRow.holds Try.pinned (OpenSpec.ofChange fnExactRecodePeopleWrong)

/-- 'laws.FnExactRecodeFiner': WHATEVER THE INPUT: true; the input reads as it did. -/
def fnExactRecodeFinerSpec : ChangeSpec := { name := "fnExactRecodeFiner", fn := fun _ => fun
  | [d1, d2, d3] => { results := [.lit (.bool true)], args := [d1, d2, d3] }
  | _ => none }
def fnExactRecodeFinerRow : OpenClaim := { program := "ytbkhkmhfbmddmaa", sum := "0540d7e87dbb8c09b65c5cf1e256bb44bda1129a197318a4c00cbe1fbcb2876e", func := "loop.example/disclosurecontrol/laws.FnExactRecodeFiner", spec := "fnExactRecodeFiner", plainKeys := false, apart := false }
def FnExactRecodeFinerSaid : Prop := fnExactRecodeFinerRow.holds Try.pinned (OpenSpec.ofChange fnExactRecodeFinerSpec)

/-- ITS FALSE NEIGHBOUR: 'it returns false'. Refute it at one input. -/
def fnExactRecodeFinerWrong : ChangeSpec := { name := "fnExactRecodeFiner", fn := fun _ => fun
  | [d1, d2, d3] => { results := [.lit (.bool false)], args := [d1, d2, d3] }
  | _ => none }
def FnExactRecodeFinerWrongFalsely : Prop := fnExactRecodeFinerRow.holds Try.pinned (OpenSpec.ofChange fnExactRecodeFinerWrong)

/-- 'laws.FnExactGroupSize': WHATEVER THE INPUT: true; the input reads as it did. -/
def fnExactGroupSizeSpec : ChangeSpec := { name := "fnExactGroupSize", fn := fun _ => fun
  | [d1, d2, d3, d4] => { results := [.lit (.bool true)], args := [d1, d2, d3, d4] }
  | _ => none }
def fnExactGroupSizeRow : OpenClaim := { program := "ytbkhkmhfbmddmaa", sum := "0540d7e87dbb8c09b65c5cf1e256bb44bda1129a197318a4c00cbe1fbcb2876e", func := "loop.example/disclosurecontrol/laws.FnExactGroupSize", spec := "fnExactGroupSize", plainKeys := false, apart := false }
def FnExactGroupSizeSaid : Prop := fnExactGroupSizeRow.holds Try.pinned (OpenSpec.ofChange fnExactGroupSizeSpec)

/-- ITS FALSE NEIGHBOUR: 'it returns false'. Refute it at one input. -/
def fnExactGroupSizeWrong : ChangeSpec := { name := "fnExactGroupSize", fn := fun _ => fun
  | [d1, d2, d3, d4] => { results := [.lit (.bool false)], args := [d1, d2, d3, d4] }
  | _ => none }
def FnExactGroupSizeWrongFalsely : Prop := fnExactGroupSizeRow.holds Try.pinned (OpenSpec.ofChange fnExactGroupSizeWrong)

/-- 'laws.FnExactGroupLeast': WHATEVER THE INPUT: true; the input reads as it did. -/
def fnExactGroupLeastSpec : ChangeSpec := { name := "fnExactGroupLeast", fn := fun _ => fun
  | [d1, d2, d3] => { results := [.lit (.bool true)], args := [d1, d2, d3] }
  | _ => none }
def fnExactGroupLeastRow : OpenClaim := { program := "ytbkhkmhfbmddmaa", sum := "0540d7e87dbb8c09b65c5cf1e256bb44bda1129a197318a4c00cbe1fbcb2876e", func := "loop.example/disclosurecontrol/laws.FnExactGroupLeast", spec := "fnExactGroupLeast", plainKeys := false, apart := false }
def FnExactGroupLeastSaid : Prop := fnExactGroupLeastRow.holds Try.pinned (OpenSpec.ofChange fnExactGroupLeastSpec)

/-- ITS FALSE NEIGHBOUR: 'it returns false'. Refute it at one input. -/
def fnExactGroupLeastWrong : ChangeSpec := { name := "fnExactGroupLeast", fn := fun _ => fun
  | [d1, d2, d3] => { results := [.lit (.bool false)], args := [d1, d2, d3] }
  | _ => none }
def FnExactGroupLeastWrongFalsely : Prop := fnExactGroupLeastRow.holds Try.pinned (OpenSpec.ofChange fnExactGroupLeastWrong)

/-- 'laws.FnExactGroupMany': WHATEVER THE INPUT: true; the input reads as it did. -/
def fnExactGroupManySpec : ChangeSpec := { name := "fnExactGroupMany", fn := fun _ => fun
  | [d1, d2, d3] => { results := [.lit (.bool true)], args := [d1, d2, d3] }
  | _ => none }
def fnExactGroupManyRow : OpenClaim := { program := "ytbkhkmhfbmddmaa", sum := "0540d7e87dbb8c09b65c5cf1e256bb44bda1129a197318a4c00cbe1fbcb2876e", func := "loop.example/disclosurecontrol/laws.FnExactGroupMany", spec := "fnExactGroupMany", plainKeys := false, apart := false }
def FnExactGroupManySaid : Prop := fnExactGroupManyRow.holds Try.pinned (OpenSpec.ofChange fnExactGroupManySpec)

/-- ITS FALSE NEIGHBOUR: 'it returns false'. Refute it at one input. -/
def fnExactGroupManyWrong : ChangeSpec := { name := "fnExactGroupMany", fn := fun _ => fun
  | [d1, d2, d3] => { results := [.lit (.bool false)], args := [d1, d2, d3] }
  | _ => none }
def FnExactGroupManyWrongFalsely : Prop := fnExactGroupManyRow.holds Try.pinned (OpenSpec.ofChange fnExactGroupManyWrong)

/-- 'laws.FnExactGroupUniques': WHATEVER THE INPUT: true; the input reads as it did. -/
def fnExactGroupUniquesSpec : ChangeSpec := { name := "fnExactGroupUniques", fn := fun _ => fun
  | [d1, d2, d3] => { results := [.lit (.bool true)], args := [d1, d2, d3] }
  | _ => none }
def fnExactGroupUniquesRow : OpenClaim := { program := "ytbkhkmhfbmddmaa", sum := "0540d7e87dbb8c09b65c5cf1e256bb44bda1129a197318a4c00cbe1fbcb2876e", func := "loop.example/disclosurecontrol/laws.FnExactGroupUniques", spec := "fnExactGroupUniques", plainKeys := false, apart := false }
def FnExactGroupUniquesSaid : Prop := fnExactGroupUniquesRow.holds Try.pinned (OpenSpec.ofChange fnExactGroupUniquesSpec)

/-- ITS FALSE NEIGHBOUR: 'it returns false'. Refute it at one input. -/
def fnExactGroupUniquesWrong : ChangeSpec := { name := "fnExactGroupUniques", fn := fun _ => fun
  | [d1, d2, d3] => { results := [.lit (.bool false)], args := [d1, d2, d3] }
  | _ => none }
def FnExactGroupUniquesWrongFalsely : Prop := fnExactGroupUniquesRow.holds Try.pinned (OpenSpec.ofChange fnExactGroupUniquesWrong)

/- THE SECOND FORM. 'bulk': how many values and letters a reading holds, each counted each time it is reached (what is shared counts as often as it is met; a slice's spare places count too). A statement '..UptoSaid' is the law's where the arguments, and the package variables that the reading takes, are together of bulk at most 1048576: NARROWER than '..Said'. Prove '..Said' where nothing that the law and all that it calls make is longer than what came in: it says more and counts as full. Else prove '..UptoSaid'. A law counts once. -/
mutual
def uptoBulk {H : Type} : DataW H → Nat
  | .lit (.string bytes) => bytes.length + 1
  | .lit _ => 1
  | .nil => 1
  | .ptr d => uptoBulk d + 1
  | .slice elems spare => uptoBulkAll elems + uptoBulkAll spare + 1
  | .agg parts => uptoBulkAll parts + 1
  | .iface _ d => uptoBulk d + 1
  | .map entries => uptoBulkEntries entries + 1
  | .held _ => 1
def uptoBulkAll {H : Type} : List (DataW H) → Nat
  | [] => 0
  | d :: r => uptoBulk d + uptoBulkAll r
def uptoBulkEntries {H : Type} : List (Lit × DataW H) → Nat
  | [] => 0
  | x :: r => uptoBulkEntry x + uptoBulkEntries r
def uptoBulkEntry {H : Type} : Lit × DataW H → Nat
  | (.string bytes, d) => bytes.length + uptoBulk d + 1
  | (_, d) => uptoBulk d + 1
 end
def uptoSmall : (H : Type) → List (DataW H) → Bool := fun _ ds => decide (uptoBulkAll ds ≤ 1048576)
def OpenSpec.upto (s : _root_.Go.ChangeSpec) : _root_.Go.OpenSpec := { _root_.Go.OpenSpec.ofChange s with cond := some uptoSmall }

/-- 'laws.FnExactRecodeValid', WHERE WHAT IT READS IS OF BULK AT MOST 1048576: true; the input reads as it did. -/
def fnExactRecodeValidUptoRow : OpenClaim := { program := "ytbkhkmhfbmddmaa", sum := "0540d7e87dbb8c09b65c5cf1e256bb44bda1129a197318a4c00cbe1fbcb2876e", func := "loop.example/disclosurecontrol/laws.FnExactRecodeValid", spec := "fnExactRecodeValid", plainKeys := false, apart := false, narrowed := true }
def FnExactRecodeValidUptoSaid : Prop := fnExactRecodeValidUptoRow.holds Try.pinned (OpenSpec.upto fnExactRecodeValidSpec)

/-- 'laws.FnExactRecodePeople', WHERE WHAT IT READS IS OF BULK AT MOST 1048576: true; the input reads as it did. -/
def fnExactRecodePeopleUptoRow : OpenClaim := { program := "ytbkhkmhfbmddmaa", sum := "0540d7e87dbb8c09b65c5cf1e256bb44bda1129a197318a4c00cbe1fbcb2876e", func := "loop.example/disclosurecontrol/laws.FnExactRecodePeople", spec := "fnExactRecodePeople", plainKeys := false, apart := false, narrowed := true }
def FnExactRecodePeopleUptoSaid : Prop := fnExactRecodePeopleUptoRow.holds Try.pinned (OpenSpec.upto fnExactRecodePeopleSpec)

/-- 'laws.FnExactRecodeFiner', WHERE WHAT IT READS IS OF BULK AT MOST 1048576: true; the input reads as it did. -/
def fnExactRecodeFinerUptoRow : OpenClaim := { program := "ytbkhkmhfbmddmaa", sum := "0540d7e87dbb8c09b65c5cf1e256bb44bda1129a197318a4c00cbe1fbcb2876e", func := "loop.example/disclosurecontrol/laws.FnExactRecodeFiner", spec := "fnExactRecodeFiner", plainKeys := false, apart := false, narrowed := true }
def FnExactRecodeFinerUptoSaid : Prop := fnExactRecodeFinerUptoRow.holds Try.pinned (OpenSpec.upto fnExactRecodeFinerSpec)

/-- 'laws.FnExactGroupSize', WHERE WHAT IT READS IS OF BULK AT MOST 1048576: true; the input reads as it did. -/
def fnExactGroupSizeUptoRow : OpenClaim := { program := "ytbkhkmhfbmddmaa", sum := "0540d7e87dbb8c09b65c5cf1e256bb44bda1129a197318a4c00cbe1fbcb2876e", func := "loop.example/disclosurecontrol/laws.FnExactGroupSize", spec := "fnExactGroupSize", plainKeys := false, apart := false, narrowed := true }
def FnExactGroupSizeUptoSaid : Prop := fnExactGroupSizeUptoRow.holds Try.pinned (OpenSpec.upto fnExactGroupSizeSpec)

/-- 'laws.FnExactGroupLeast', WHERE WHAT IT READS IS OF BULK AT MOST 1048576: true; the input reads as it did. -/
def fnExactGroupLeastUptoRow : OpenClaim := { program := "ytbkhkmhfbmddmaa", sum := "0540d7e87dbb8c09b65c5cf1e256bb44bda1129a197318a4c00cbe1fbcb2876e", func := "loop.example/disclosurecontrol/laws.FnExactGroupLeast", spec := "fnExactGroupLeast", plainKeys := false, apart := false, narrowed := true }
def FnExactGroupLeastUptoSaid : Prop := fnExactGroupLeastUptoRow.holds Try.pinned (OpenSpec.upto fnExactGroupLeastSpec)

/-- 'laws.FnExactGroupMany', WHERE WHAT IT READS IS OF BULK AT MOST 1048576: true; the input reads as it did. -/
def fnExactGroupManyUptoRow : OpenClaim := { program := "ytbkhkmhfbmddmaa", sum := "0540d7e87dbb8c09b65c5cf1e256bb44bda1129a197318a4c00cbe1fbcb2876e", func := "loop.example/disclosurecontrol/laws.FnExactGroupMany", spec := "fnExactGroupMany", plainKeys := false, apart := false, narrowed := true }
def FnExactGroupManyUptoSaid : Prop := fnExactGroupManyUptoRow.holds Try.pinned (OpenSpec.upto fnExactGroupManySpec)

/-- 'laws.FnExactGroupUniques', WHERE WHAT IT READS IS OF BULK AT MOST 1048576: true; the input reads as it did. -/
def fnExactGroupUniquesUptoRow : OpenClaim := { program := "ytbkhkmhfbmddmaa", sum := "0540d7e87dbb8c09b65c5cf1e256bb44bda1129a197318a4c00cbe1fbcb2876e", func := "loop.example/disclosurecontrol/laws.FnExactGroupUniques", spec := "fnExactGroupUniques", plainKeys := false, apart := false, narrowed := true }
def FnExactGroupUniquesUptoSaid : Prop := fnExactGroupUniquesUptoRow.holds Try.pinned (OpenSpec.upto fnExactGroupUniquesSpec)

end Rows
end Go.Proofs.Ytbkhkmhfbmddmaa
