/-
  No cell of these rows narrows 'for every input' (looked for: loops, veiled, ifaces, maps, wideKeys, modest, calm, conditions, laid).
  DERIVED. THE GIVEN ROWS OF THIS SEAT. 10 by the template 'for every input the law returns true; each argument reads behind the call as it read before'; 0 by the template 'total and deterministic' (their statements: YtfcbnfemnfnadaaTotals.lean).
  GIVEN WITH THE SEED: the statements are not yours to turn. If you find one false, say at which input.
  Laid BY PROGRAM, IN A SANDBOX (cutbox-rows.mjs): the forced cells as the released guide's own fill.sh prints them over the translation a84d1455c9adf268… (all of the seat's roots in one cut). By AI agents, Wed Nov 11 2026. No macro, syntax, notation, axiom, sorry.
-/
import Derived.Test.YtfcbnfemnfnadaaChecked
import GoSem.Claim
import GoSem.ClaimJoined
import GoSem.ClaimMapViews
import Derived.JoinedTies
import Derived.KernelRfl
namespace Go.Proofs.Ytfcbnfemnfnadaa
/- THE CELL 'sum', in the pinned program and in every row, IS THE sha256 OF THE DUMP (.gsa) THAT YtfcbnfemnfnadaaProg.lean LOADS. Nothing in Lean hashes anything: it is a label: what it is worth is what the hold of that sum in a sandbox is worth. -/
noncomputable def Try.pinned : Pinned := { name := "ytfcbnfemnfnadaa", sum := "a84d1455c9adf268e9b8ac2dce6015b308d19b7dbd975c3c57ea9bc799d989df", checked := Try.checked }
namespace Rows
def none {H : Type} : Left H := { results := [], args := [] }

/-- 'laws.FnGroupMany': WHATEVER THE INPUT: true; the input reads as it did. -/
def fnGroupManySpec : ChangeSpec := { name := "fnGroupMany", fn := fun _ => fun
  | [d] => { results := [.lit (.bool true)], args := [d] }
  | _ => none }
def fnGroupManyRow : OpenClaim := { program := "ytfcbnfemnfnadaa", sum := "a84d1455c9adf268e9b8ac2dce6015b308d19b7dbd975c3c57ea9bc799d989df", func := "loop.example/disclosurecontrol/laws.FnGroupMany", spec := "fnGroupMany", plainKeys := false, apart := false }
def FnGroupManySaid : Prop := fnGroupManyRow.holds Try.pinned (OpenSpec.ofChange fnGroupManySpec)

/-- ITS FALSE NEIGHBOUR: 'it returns false'. Refute it at one input. -/
def fnGroupManyWrong : ChangeSpec := { name := "fnGroupMany", fn := fun _ => fun
  | [d] => { results := [.lit (.bool false)], args := [d] }
  | _ => none }
def FnGroupManyWrongFalsely : Prop := fnGroupManyRow.holds Try.pinned (OpenSpec.ofChange fnGroupManyWrong)

/-- 'laws.FnGroupManySum': WHATEVER THE INPUT: true; the input reads as it did. -/
def fnGroupManySumSpec : ChangeSpec := { name := "fnGroupManySum", fn := fun _ => fun
  | [d] => { results := [.lit (.bool true)], args := [d] }
  | _ => none }
def fnGroupManySumRow : OpenClaim := { program := "ytfcbnfemnfnadaa", sum := "a84d1455c9adf268e9b8ac2dce6015b308d19b7dbd975c3c57ea9bc799d989df", func := "loop.example/disclosurecontrol/laws.FnGroupManySum", spec := "fnGroupManySum", plainKeys := false, apart := false }
def FnGroupManySumSaid : Prop := fnGroupManySumRow.holds Try.pinned (OpenSpec.ofChange fnGroupManySumSpec)

/-- ITS FALSE NEIGHBOUR: 'it returns false'. Refute it at one input. -/
def fnGroupManySumWrong : ChangeSpec := { name := "fnGroupManySum", fn := fun _ => fun
  | [d] => { results := [.lit (.bool false)], args := [d] }
  | _ => none }
def FnGroupManySumWrongFalsely : Prop := fnGroupManySumRow.holds Try.pinned (OpenSpec.ofChange fnGroupManySumWrong)

/-- 'laws.FnUniques': WHATEVER THE INPUT: true; the input reads as it did. -/
def fnUniquesSpec : ChangeSpec := { name := "fnUniques", fn := fun _ => fun
  | [d] => { results := [.lit (.bool true)], args := [d] }
  | _ => none }
def fnUniquesRow : OpenClaim := { program := "ytfcbnfemnfnadaa", sum := "a84d1455c9adf268e9b8ac2dce6015b308d19b7dbd975c3c57ea9bc799d989df", func := "loop.example/disclosurecontrol/laws.FnUniques", spec := "fnUniques", plainKeys := false, apart := false }
def FnUniquesSaid : Prop := fnUniquesRow.holds Try.pinned (OpenSpec.ofChange fnUniquesSpec)

/-- ITS FALSE NEIGHBOUR: 'it returns false'. Refute it at one input. -/
def fnUniquesWrong : ChangeSpec := { name := "fnUniques", fn := fun _ => fun
  | [d] => { results := [.lit (.bool false)], args := [d] }
  | _ => none }
def FnUniquesWrongFalsely : Prop := fnUniquesRow.holds Try.pinned (OpenSpec.ofChange fnUniquesWrong)

/-- 'laws.FnUniquesTwice': WHATEVER THE INPUT: true; the input reads as it did. -/
def fnUniquesTwiceSpec : ChangeSpec := { name := "fnUniquesTwice", fn := fun _ => fun
  | [d] => { results := [.lit (.bool true)], args := [d] }
  | _ => none }
def fnUniquesTwiceRow : OpenClaim := { program := "ytfcbnfemnfnadaa", sum := "a84d1455c9adf268e9b8ac2dce6015b308d19b7dbd975c3c57ea9bc799d989df", func := "loop.example/disclosurecontrol/laws.FnUniquesTwice", spec := "fnUniquesTwice", plainKeys := false, apart := false }
def FnUniquesTwiceSaid : Prop := fnUniquesTwiceRow.holds Try.pinned (OpenSpec.ofChange fnUniquesTwiceSpec)

/-- ITS FALSE NEIGHBOUR: 'it returns false'. Refute it at one input. -/
def fnUniquesTwiceWrong : ChangeSpec := { name := "fnUniquesTwice", fn := fun _ => fun
  | [d] => { results := [.lit (.bool false)], args := [d] }
  | _ => none }
def FnUniquesTwiceWrongFalsely : Prop := fnUniquesTwiceRow.holds Try.pinned (OpenSpec.ofChange fnUniquesTwiceWrong)

/-- 'laws.FnGroupManyAdd': WHATEVER THE INPUT: true; the input reads as it did. -/
def fnGroupManyAddSpec : ChangeSpec := { name := "fnGroupManyAdd", fn := fun _ => fun
  | [d1, d2] => { results := [.lit (.bool true)], args := [d1, d2] }
  | _ => none }
def fnGroupManyAddRow : OpenClaim := { program := "ytfcbnfemnfnadaa", sum := "a84d1455c9adf268e9b8ac2dce6015b308d19b7dbd975c3c57ea9bc799d989df", func := "loop.example/disclosurecontrol/laws.FnGroupManyAdd", spec := "fnGroupManyAdd", plainKeys := false, apart := false }
def FnGroupManyAddSaid : Prop := fnGroupManyAddRow.holds Try.pinned (OpenSpec.ofChange fnGroupManyAddSpec)

/-- ITS FALSE NEIGHBOUR: 'it returns false'. Refute it at one input. -/
def fnGroupManyAddWrong : ChangeSpec := { name := "fnGroupManyAdd", fn := fun _ => fun
  | [d1, d2] => { results := [.lit (.bool false)], args := [d1, d2] }
  | _ => none }
def FnGroupManyAddWrongFalsely : Prop := fnGroupManyAddRow.holds Try.pinned (OpenSpec.ofChange fnGroupManyAddWrong)

/-- 'laws.FnUniquesAll': WHATEVER THE INPUT: true; the input reads as it did. -/
def fnUniquesAllSpec : ChangeSpec := { name := "fnUniquesAll", fn := fun _ => fun
  | [d] => { results := [.lit (.bool true)], args := [d] }
  | _ => none }
def fnUniquesAllRow : OpenClaim := { program := "ytfcbnfemnfnadaa", sum := "a84d1455c9adf268e9b8ac2dce6015b308d19b7dbd975c3c57ea9bc799d989df", func := "loop.example/disclosurecontrol/laws.FnUniquesAll", spec := "fnUniquesAll", plainKeys := false, apart := false }
def FnUniquesAllSaid : Prop := fnUniquesAllRow.holds Try.pinned (OpenSpec.ofChange fnUniquesAllSpec)

/-- ITS FALSE NEIGHBOUR: 'it returns false'. Refute it at one input. -/
def fnUniquesAllWrong : ChangeSpec := { name := "fnUniquesAll", fn := fun _ => fun
  | [d] => { results := [.lit (.bool false)], args := [d] }
  | _ => none }
def FnUniquesAllWrongFalsely : Prop := fnUniquesAllRow.holds Try.pinned (OpenSpec.ofChange fnUniquesAllWrong)

/-- 'laws.FnRecode': WHATEVER THE INPUT: true; the input reads as it did. -/
def fnRecodeSpec : ChangeSpec := { name := "fnRecode", fn := fun _ => fun
  | [d] => { results := [.lit (.bool true)], args := [d] }
  | _ => none }
def fnRecodeRow : OpenClaim := { program := "ytfcbnfemnfnadaa", sum := "a84d1455c9adf268e9b8ac2dce6015b308d19b7dbd975c3c57ea9bc799d989df", func := "loop.example/disclosurecontrol/laws.FnRecode", spec := "fnRecode", plainKeys := false, apart := false }
def FnRecodeSaid : Prop := fnRecodeRow.holds Try.pinned (OpenSpec.ofChange fnRecodeSpec)

/-- ITS FALSE NEIGHBOUR: 'it returns false'. Refute it at one input. -/
def fnRecodeWrong : ChangeSpec := { name := "fnRecode", fn := fun _ => fun
  | [d] => { results := [.lit (.bool false)], args := [d] }
  | _ => none }
def FnRecodeWrongFalsely : Prop := fnRecodeRow.holds Try.pinned (OpenSpec.ofChange fnRecodeWrong)

/-- 'laws.FnRecodeFiner': WHATEVER THE INPUT: true; the input reads as it did. -/
def fnRecodeFinerSpec : ChangeSpec := { name := "fnRecodeFiner", fn := fun _ => fun
  | [d] => { results := [.lit (.bool true)], args := [d] }
  | _ => none }
def fnRecodeFinerRow : OpenClaim := { program := "ytfcbnfemnfnadaa", sum := "a84d1455c9adf268e9b8ac2dce6015b308d19b7dbd975c3c57ea9bc799d989df", func := "loop.example/disclosurecontrol/laws.FnRecodeFiner", spec := "fnRecodeFiner", plainKeys := false, apart := false }
def FnRecodeFinerSaid : Prop := fnRecodeFinerRow.holds Try.pinned (OpenSpec.ofChange fnRecodeFinerSpec)

/-- ITS FALSE NEIGHBOUR: 'it returns false'. Refute it at one input. -/
def fnRecodeFinerWrong : ChangeSpec := { name := "fnRecodeFiner", fn := fun _ => fun
  | [d] => { results := [.lit (.bool false)], args := [d] }
  | _ => none }
def FnRecodeFinerWrongFalsely : Prop := fnRecodeFinerRow.holds Try.pinned (OpenSpec.ofChange fnRecodeFinerWrong)

/-- 'laws.FnRecodeChain': WHATEVER THE INPUT: true; the input reads as it did. -/
def fnRecodeChainSpec : ChangeSpec := { name := "fnRecodeChain", fn := fun _ => fun
  | [d1, d2] => { results := [.lit (.bool true)], args := [d1, d2] }
  | _ => none }
def fnRecodeChainRow : OpenClaim := { program := "ytfcbnfemnfnadaa", sum := "a84d1455c9adf268e9b8ac2dce6015b308d19b7dbd975c3c57ea9bc799d989df", func := "loop.example/disclosurecontrol/laws.FnRecodeChain", spec := "fnRecodeChain", plainKeys := false, apart := false }
def FnRecodeChainSaid : Prop := fnRecodeChainRow.holds Try.pinned (OpenSpec.ofChange fnRecodeChainSpec)

/-- ITS FALSE NEIGHBOUR: 'it returns false'. Refute it at one input. -/
def fnRecodeChainWrong : ChangeSpec := { name := "fnRecodeChain", fn := fun _ => fun
  | [d1, d2] => { results := [.lit (.bool false)], args := [d1, d2] }
  | _ => none }
def FnRecodeChainWrongFalsely : Prop := fnRecodeChainRow.holds Try.pinned (OpenSpec.ofChange fnRecodeChainWrong)

/-- 'laws.FnRecodeFinerLeast': WHATEVER THE INPUT: true; the input reads as it did. -/
def fnRecodeFinerLeastSpec : ChangeSpec := { name := "fnRecodeFinerLeast", fn := fun _ => fun
  | [d1, d2] => { results := [.lit (.bool true)], args := [d1, d2] }
  | _ => none }
def fnRecodeFinerLeastRow : OpenClaim := { program := "ytfcbnfemnfnadaa", sum := "a84d1455c9adf268e9b8ac2dce6015b308d19b7dbd975c3c57ea9bc799d989df", func := "loop.example/disclosurecontrol/laws.FnRecodeFinerLeast", spec := "fnRecodeFinerLeast", plainKeys := false, apart := false }
def FnRecodeFinerLeastSaid : Prop := fnRecodeFinerLeastRow.holds Try.pinned (OpenSpec.ofChange fnRecodeFinerLeastSpec)

/-- ITS FALSE NEIGHBOUR: 'it returns false'. Refute it at one input. -/
def fnRecodeFinerLeastWrong : ChangeSpec := { name := "fnRecodeFinerLeast", fn := fun _ => fun
  | [d1, d2] => { results := [.lit (.bool false)], args := [d1, d2] }
  | _ => none }
def FnRecodeFinerLeastWrongFalsely : Prop := fnRecodeFinerLeastRow.holds Try.pinned (OpenSpec.ofChange fnRecodeFinerLeastWrong)

/- THE SECOND FORM. 'bulk': how many values and letters a reading holds, each counted each time it is reached (what is shared counts as often as it is met; a slice's spare places count too). A statement '..UptoSaid' is the law's where the arguments, and the package variables that the reading takes, are together of bulk at most 1048576: NARROWER than '..Said'. Prove '..Said' where nothing that the law and all that it calls make is longer than what came in: it says more and counts as full. Else prove '..UptoSaid'. A law counts once. -/
mutual
def uptoBulk {H : Type} : DataW H → Nat
  | .lit (.string bytes) => bytes.length + 1
  | .lit _ => 1
  | .nil => 1
  | .ptr d => uptoBulk d + 1
  | .slice elems spare => uptoBulkAll elems + uptoBulkAll spare + 1
  | .agg parts => uptoBulkAll parts + 1
  | .iface _ d => uptoBulk d + 1
  | .map entries => uptoBulkEntries entries + 1
  | .held _ => 1
def uptoBulkAll {H : Type} : List (DataW H) → Nat
  | [] => 0
  | d :: r => uptoBulk d + uptoBulkAll r
def uptoBulkEntries {H : Type} : List (Lit × DataW H) → Nat
  | [] => 0
  | x :: r => uptoBulkEntry x + uptoBulkEntries r
def uptoBulkEntry {H : Type} : Lit × DataW H → Nat
  | (.string bytes, d) => bytes.length + uptoBulk d + 1
  | (_, d) => uptoBulk d + 1
 end
def uptoSmall : (H : Type) → List (DataW H) → Bool := fun _ ds => decide (uptoBulkAll ds ≤ 1048576)
def OpenSpec.upto (s : _root_.Go.ChangeSpec) : _root_.Go.OpenSpec := { _root_.Go.OpenSpec.ofChange s with cond := some uptoSmall }

/-- 'laws.FnGroupMany', WHERE WHAT IT READS IS OF BULK AT MOST 1048576: true; the input reads as it did. -/
def fnGroupManyUptoRow : OpenClaim := { program := "ytfcbnfemnfnadaa", sum := "a84d1455c9adf268e9b8ac2dce6015b308d19b7dbd975c3c57ea9bc799d989df", func := "loop.example/disclosurecontrol/laws.FnGroupMany", spec := "fnGroupMany", plainKeys := false, apart := false, narrowed := true }
def FnGroupManyUptoSaid : Prop := fnGroupManyUptoRow.holds Try.pinned (OpenSpec.upto fnGroupManySpec)

/-- 'laws.FnGroupManySum', WHERE WHAT IT READS IS OF BULK AT MOST 1048576: true; the input reads as it did. -/
def fnGroupManySumUptoRow : OpenClaim := { program := "ytfcbnfemnfnadaa", sum := "a84d1455c9adf268e9b8ac2dce6015b308d19b7dbd975c3c57ea9bc799d989df", func := "loop.example/disclosurecontrol/laws.FnGroupManySum", spec := "fnGroupManySum", plainKeys := false, apart := false, narrowed := true }
def FnGroupManySumUptoSaid : Prop := fnGroupManySumUptoRow.holds Try.pinned (OpenSpec.upto fnGroupManySumSpec)

/-- 'laws.FnUniques', WHERE WHAT IT READS IS OF BULK AT MOST 1048576: true; the input reads as it did. -/
def fnUniquesUptoRow : OpenClaim := { program := "ytfcbnfemnfnadaa", sum := "a84d1455c9adf268e9b8ac2dce6015b308d19b7dbd975c3c57ea9bc799d989df", func := "loop.example/disclosurecontrol/laws.FnUniques", spec := "fnUniques", plainKeys := false, apart := false, narrowed := true }
def FnUniquesUptoSaid : Prop := fnUniquesUptoRow.holds Try.pinned (OpenSpec.upto fnUniquesSpec)

/-- 'laws.FnUniquesTwice', WHERE WHAT IT READS IS OF BULK AT MOST 1048576: true; the input reads as it did. -/
def fnUniquesTwiceUptoRow : OpenClaim := { program := "ytfcbnfemnfnadaa", sum := "a84d1455c9adf268e9b8ac2dce6015b308d19b7dbd975c3c57ea9bc799d989df", func := "loop.example/disclosurecontrol/laws.FnUniquesTwice", spec := "fnUniquesTwice", plainKeys := false, apart := false, narrowed := true }
def FnUniquesTwiceUptoSaid : Prop := fnUniquesTwiceUptoRow.holds Try.pinned (OpenSpec.upto fnUniquesTwiceSpec)

/-- 'laws.FnGroupManyAdd', WHERE WHAT IT READS IS OF BULK AT MOST 1048576: true; the input reads as it did. -/
def fnGroupManyAddUptoRow : OpenClaim := { program := "ytfcbnfemnfnadaa", sum := "a84d1455c9adf268e9b8ac2dce6015b308d19b7dbd975c3c57ea9bc799d989df", func := "loop.example/disclosurecontrol/laws.FnGroupManyAdd", spec := "fnGroupManyAdd", plainKeys := false, apart := false, narrowed := true }
def FnGroupManyAddUptoSaid : Prop := fnGroupManyAddUptoRow.holds Try.pinned (OpenSpec.upto fnGroupManyAddSpec)

/-- 'laws.FnUniquesAll', WHERE WHAT IT READS IS OF BULK AT MOST 1048576: true; the input reads as it did. -/
def fnUniquesAllUptoRow : OpenClaim := { program := "ytfcbnfemnfnadaa", sum := "a84d1455c9adf268e9b8ac2dce6015b308d19b7dbd975c3c57ea9bc799d989df", func := "loop.example/disclosurecontrol/laws.FnUniquesAll", spec := "fnUniquesAll", plainKeys := false, apart := false, narrowed := true }
def FnUniquesAllUptoSaid : Prop := fnUniquesAllUptoRow.holds Try.pinned (OpenSpec.upto fnUniquesAllSpec)

/-- 'laws.FnRecode', WHERE WHAT IT READS IS OF BULK AT MOST 1048576: true; the input reads as it did. -/
def fnRecodeUptoRow : OpenClaim := { program := "ytfcbnfemnfnadaa", sum := "a84d1455c9adf268e9b8ac2dce6015b308d19b7dbd975c3c57ea9bc799d989df", func := "loop.example/disclosurecontrol/laws.FnRecode", spec := "fnRecode", plainKeys := false, apart := false, narrowed := true }
def FnRecodeUptoSaid : Prop := fnRecodeUptoRow.holds Try.pinned (OpenSpec.upto fnRecodeSpec)

/-- 'laws.FnRecodeFiner', WHERE WHAT IT READS IS OF BULK AT MOST 1048576: true; the input reads as it did. -/
def fnRecodeFinerUptoRow : OpenClaim := { program := "ytfcbnfemnfnadaa", sum := "a84d1455c9adf268e9b8ac2dce6015b308d19b7dbd975c3c57ea9bc799d989df", func := "loop.example/disclosurecontrol/laws.FnRecodeFiner", spec := "fnRecodeFiner", plainKeys := false, apart := false, narrowed := true }
def FnRecodeFinerUptoSaid : Prop := fnRecodeFinerUptoRow.holds Try.pinned (OpenSpec.upto fnRecodeFinerSpec)

/-- 'laws.FnRecodeChain', WHERE WHAT IT READS IS OF BULK AT MOST 1048576: true; the input reads as it did. -/
def fnRecodeChainUptoRow : OpenClaim := { program := "ytfcbnfemnfnadaa", sum := "a84d1455c9adf268e9b8ac2dce6015b308d19b7dbd975c3c57ea9bc799d989df", func := "loop.example/disclosurecontrol/laws.FnRecodeChain", spec := "fnRecodeChain", plainKeys := false, apart := false, narrowed := true }
def FnRecodeChainUptoSaid : Prop := fnRecodeChainUptoRow.holds Try.pinned (OpenSpec.upto fnRecodeChainSpec)

/-- 'laws.FnRecodeFinerLeast', WHERE WHAT IT READS IS OF BULK AT MOST 1048576: true; the input reads as it did. -/
def fnRecodeFinerLeastUptoRow : OpenClaim := { program := "ytfcbnfemnfnadaa", sum := "a84d1455c9adf268e9b8ac2dce6015b308d19b7dbd975c3c57ea9bc799d989df", func := "loop.example/disclosurecontrol/laws.FnRecodeFinerLeast", spec := "fnRecodeFinerLeast", plainKeys := false, apart := false, narrowed := true }
def FnRecodeFinerLeastUptoSaid : Prop := fnRecodeFinerLeastUptoRow.holds Try.pinned (OpenSpec.upto fnRecodeFinerLeastSpec)

end Rows
end Go.Proofs.Ytfcbnfemnfnadaa
