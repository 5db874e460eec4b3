/-
  No cell of these rows narrows 'for every input' (looked for: loops, veiled, ifaces, maps, wideKeys, modest, calm, conditions, laid).
  DERIVED. THE GIVEN ROWS OF THIS SEAT. 5 by the template 'for every input the law returns true; each argument reads behind the call as it read before'; 0 by the template 'total and deterministic' (their statements: YtofobkamnolddaaTotals.lean).
  GIVEN WITH THE SEED: the statements are not yours to turn. If you find one false, say at which input.
  Laid BY PROGRAM, IN A SANDBOX (cutbox-rows.mjs): the forced cells as the released guide's own fill.sh prints them over the translation 029d03cf99bfc380… (all of the seat's roots in one cut). By AI agents, Wed Nov 11 2026. No macro, syntax, notation, axiom, sorry.
-/
import Derived.Test.YtofobkamnolddaaChecked
import GoSem.Claim
import GoSem.ClaimJoined
import GoSem.ClaimMapViews
import Derived.JoinedTies
import Derived.KernelRfl
namespace Go.Proofs.Ytofobkamnolddaa
/- THE CELL 'sum', in the pinned program and in every row, IS THE sha256 OF THE DUMP (.gsa) THAT YtofobkamnolddaaProg.lean LOADS. Nothing in Lean hashes anything: it is a label: what it is worth is what the hold of that sum in a sandbox is worth. -/
noncomputable def Try.pinned : Pinned := { name := "ytofobkamnolddaa", sum := "029d03cf99bfc3807e334f34a313c0e5eff3f7dc535306090e0a1eefde015d1d", checked := Try.checked }
namespace Rows
def none {H : Type} : Left H := { results := [], args := [] }

/-- 'laws.FnExactAnonDrop': WHATEVER THE INPUT: true; the input reads as it did. -/
def fnExactAnonDropSpec : ChangeSpec := { name := "fnExactAnonDrop", fn := fun _ => fun
  | [d1, d2, d3, d4] => { results := [.lit (.bool true)], args := [d1, d2, d3, d4] }
  | _ => none }
def fnExactAnonDropRow : OpenClaim := { program := "ytofobkamnolddaa", sum := "029d03cf99bfc3807e334f34a313c0e5eff3f7dc535306090e0a1eefde015d1d", func := "loop.example/disclosurecontrol/laws.FnExactAnonDrop", spec := "fnExactAnonDrop", plainKeys := false, apart := false }
def FnExactAnonDropSaid : Prop := fnExactAnonDropRow.holds Try.pinned (OpenSpec.ofChange fnExactAnonDropSpec)

/-- ITS FALSE NEIGHBOUR: 'it returns false'. Refute it at one input. -/
def fnExactAnonDropWrong : ChangeSpec := { name := "fnExactAnonDrop", fn := fun _ => fun
  | [d1, d2, d3, d4] => { results := [.lit (.bool false)], args := [d1, d2, d3, d4] }
  | _ => none }
def FnExactAnonDropWrongFalsely : Prop := fnExactAnonDropRow.holds Try.pinned (OpenSpec.ofChange fnExactAnonDropWrong)

/-- 'laws.FnExactAnonOk': WHATEVER THE INPUT: true; the input reads as it did. -/
def fnExactAnonOkSpec : ChangeSpec := { name := "fnExactAnonOk", fn := fun _ => fun
  | [d1, d2, d3, d4] => { results := [.lit (.bool true)], args := [d1, d2, d3, d4] }
  | _ => none }
def fnExactAnonOkRow : OpenClaim := { program := "ytofobkamnolddaa", sum := "029d03cf99bfc3807e334f34a313c0e5eff3f7dc535306090e0a1eefde015d1d", func := "loop.example/disclosurecontrol/laws.FnExactAnonOk", spec := "fnExactAnonOk", plainKeys := false, apart := false }
def FnExactAnonOkSaid : Prop := fnExactAnonOkRow.holds Try.pinned (OpenSpec.ofChange fnExactAnonOkSpec)

/-- ITS FALSE NEIGHBOUR: 'it returns false'. Refute it at one input. -/
def fnExactAnonOkWrong : ChangeSpec := { name := "fnExactAnonOk", fn := fun _ => fun
  | [d1, d2, d3, d4] => { results := [.lit (.bool false)], args := [d1, d2, d3, d4] }
  | _ => none }
def FnExactAnonOkWrongFalsely : Prop := fnExactAnonOkRow.holds Try.pinned (OpenSpec.ofChange fnExactAnonOkWrong)

/-- 'laws.FnExactAnonKeep': WHATEVER THE INPUT: true; the input reads as it did. -/
def fnExactAnonKeepSpec : ChangeSpec := { name := "fnExactAnonKeep", fn := fun _ => fun
  | [d1, d2, d3, d4] => { results := [.lit (.bool true)], args := [d1, d2, d3, d4] }
  | _ => none }
def fnExactAnonKeepRow : OpenClaim := { program := "ytofobkamnolddaa", sum := "029d03cf99bfc3807e334f34a313c0e5eff3f7dc535306090e0a1eefde015d1d", func := "loop.example/disclosurecontrol/laws.FnExactAnonKeep", spec := "fnExactAnonKeep", plainKeys := false, apart := false }
def FnExactAnonKeepSaid : Prop := fnExactAnonKeepRow.holds Try.pinned (OpenSpec.ofChange fnExactAnonKeepSpec)

/-- ITS FALSE NEIGHBOUR: 'it returns false'. Refute it at one input. -/
def fnExactAnonKeepWrong : ChangeSpec := { name := "fnExactAnonKeep", fn := fun _ => fun
  | [d1, d2, d3, d4] => { results := [.lit (.bool false)], args := [d1, d2, d3, d4] }
  | _ => none }
def FnExactAnonKeepWrongFalsely : Prop := fnExactAnonKeepRow.holds Try.pinned (OpenSpec.ofChange fnExactAnonKeepWrong)

/-- 'laws.FnExactAnonCost': WHATEVER THE INPUT: true; the input reads as it did. -/
def fnExactAnonCostSpec : ChangeSpec := { name := "fnExactAnonCost", fn := fun _ => fun
  | [d1, d2] => { results := [.lit (.bool true)], args := [d1, d2] }
  | _ => none }
def fnExactAnonCostRow : OpenClaim := { program := "ytofobkamnolddaa", sum := "029d03cf99bfc3807e334f34a313c0e5eff3f7dc535306090e0a1eefde015d1d", func := "loop.example/disclosurecontrol/laws.FnExactAnonCost", spec := "fnExactAnonCost", plainKeys := false, apart := false }
def FnExactAnonCostSaid : Prop := fnExactAnonCostRow.holds Try.pinned (OpenSpec.ofChange fnExactAnonCostSpec)

/-- ITS FALSE NEIGHBOUR: 'it returns false'. Refute it at one input. -/
def fnExactAnonCostWrong : ChangeSpec := { name := "fnExactAnonCost", fn := fun _ => fun
  | [d1, d2] => { results := [.lit (.bool false)], args := [d1, d2] }
  | _ => none }
def FnExactAnonCostWrongFalsely : Prop := fnExactAnonCostRow.holds Try.pinned (OpenSpec.ofChange fnExactAnonCostWrong)

/-- 'laws.FnExactAnonBest': WHATEVER THE INPUT: true; the input reads as it did. -/
def fnExactAnonBestSpec : ChangeSpec := { name := "fnExactAnonBest", fn := fun _ => fun
  | [d1, d2, d3, d4] => { results := [.lit (.bool true)], args := [d1, d2, d3, d4] }
  | _ => none }
def fnExactAnonBestRow : OpenClaim := { program := "ytofobkamnolddaa", sum := "029d03cf99bfc3807e334f34a313c0e5eff3f7dc535306090e0a1eefde015d1d", func := "loop.example/disclosurecontrol/laws.FnExactAnonBest", spec := "fnExactAnonBest", unfollowed := true, recurses := true, plainKeys := false, apart := false }
def FnExactAnonBestSaid : Prop := fnExactAnonBestRow.holds Try.pinned (OpenSpec.ofChange fnExactAnonBestSpec)

/-- ITS FALSE NEIGHBOUR: 'it returns false'. Refute it at one input. -/
def fnExactAnonBestWrong : ChangeSpec := { name := "fnExactAnonBest", fn := fun _ => fun
  | [d1, d2, d3, d4] => { results := [.lit (.bool false)], args := [d1, d2, d3, d4] }
  | _ => none }
def FnExactAnonBestWrongFalsely : Prop := fnExactAnonBestRow.holds Try.pinned (OpenSpec.ofChange fnExactAnonBestWrong)

/- THE SECOND FORM. 'bulk': how many values and letters a reading holds, each counted each time it is reached (what is shared counts as often as it is met; a slice's spare places count too). A statement '..UptoSaid' is the law's where the arguments, and the package variables that the reading takes, are together of bulk at most 1048576: NARROWER than '..Said'. Prove '..Said' where nothing that the law and all that it calls make is longer than what came in: it says more and counts as full. Else prove '..UptoSaid'. A law counts once. -/
mutual
def uptoBulk {H : Type} : DataW H → Nat
  | .lit (.string bytes) => bytes.length + 1
  | .lit _ => 1
  | .nil => 1
  | .ptr d => uptoBulk d + 1
  | .slice elems spare => uptoBulkAll elems + uptoBulkAll spare + 1
  | .agg parts => uptoBulkAll parts + 1
  | .iface _ d => uptoBulk d + 1
  | .map entries => uptoBulkEntries entries + 1
  | .held _ => 1
def uptoBulkAll {H : Type} : List (DataW H) → Nat
  | [] => 0
  | d :: r => uptoBulk d + uptoBulkAll r
def uptoBulkEntries {H : Type} : List (Lit × DataW H) → Nat
  | [] => 0
  | x :: r => uptoBulkEntry x + uptoBulkEntries r
def uptoBulkEntry {H : Type} : Lit × DataW H → Nat
  | (.string bytes, d) => bytes.length + uptoBulk d + 1
  | (_, d) => uptoBulk d + 1
 end
def uptoSmall : (H : Type) → List (DataW H) → Bool := fun _ ds => decide (uptoBulkAll ds ≤ 1048576)
def OpenSpec.upto (s : _root_.Go.ChangeSpec) : _root_.Go.OpenSpec := { _root_.Go.OpenSpec.ofChange s with cond := some uptoSmall }

/-- 'laws.FnExactAnonDrop', WHERE WHAT IT READS IS OF BULK AT MOST 1048576: true; the input reads as it did. -/
def fnExactAnonDropUptoRow : OpenClaim := { program := "ytofobkamnolddaa", sum := "029d03cf99bfc3807e334f34a313c0e5eff3f7dc535306090e0a1eefde015d1d", func := "loop.example/disclosurecontrol/laws.FnExactAnonDrop", spec := "fnExactAnonDrop", plainKeys := false, apart := false, narrowed := true }
def FnExactAnonDropUptoSaid : Prop := fnExactAnonDropUptoRow.holds Try.pinned (OpenSpec.upto fnExactAnonDropSpec)

/-- 'laws.FnExactAnonOk', WHERE WHAT IT READS IS OF BULK AT MOST 1048576: true; the input reads as it did. -/
def fnExactAnonOkUptoRow : OpenClaim := { program := "ytofobkamnolddaa", sum := "029d03cf99bfc3807e334f34a313c0e5eff3f7dc535306090e0a1eefde015d1d", func := "loop.example/disclosurecontrol/laws.FnExactAnonOk", spec := "fnExactAnonOk", plainKeys := false, apart := false, narrowed := true }
def FnExactAnonOkUptoSaid : Prop := fnExactAnonOkUptoRow.holds Try.pinned (OpenSpec.upto fnExactAnonOkSpec)

/-- 'laws.FnExactAnonKeep', WHERE WHAT IT READS IS OF BULK AT MOST 1048576: true; the input reads as it did. -/
def fnExactAnonKeepUptoRow : OpenClaim := { program := "ytofobkamnolddaa", sum := "029d03cf99bfc3807e334f34a313c0e5eff3f7dc535306090e0a1eefde015d1d", func := "loop.example/disclosurecontrol/laws.FnExactAnonKeep", spec := "fnExactAnonKeep", plainKeys := false, apart := false, narrowed := true }
def FnExactAnonKeepUptoSaid : Prop := fnExactAnonKeepUptoRow.holds Try.pinned (OpenSpec.upto fnExactAnonKeepSpec)

/-- 'laws.FnExactAnonCost', WHERE WHAT IT READS IS OF BULK AT MOST 1048576: true; the input reads as it did. -/
def fnExactAnonCostUptoRow : OpenClaim := { program := "ytofobkamnolddaa", sum := "029d03cf99bfc3807e334f34a313c0e5eff3f7dc535306090e0a1eefde015d1d", func := "loop.example/disclosurecontrol/laws.FnExactAnonCost", spec := "fnExactAnonCost", plainKeys := false, apart := false, narrowed := true }
def FnExactAnonCostUptoSaid : Prop := fnExactAnonCostUptoRow.holds Try.pinned (OpenSpec.upto fnExactAnonCostSpec)

/-- 'laws.FnExactAnonBest', WHERE WHAT IT READS IS OF BULK AT MOST 1048576: true; the input reads as it did. -/
def fnExactAnonBestUptoRow : OpenClaim := { program := "ytofobkamnolddaa", sum := "029d03cf99bfc3807e334f34a313c0e5eff3f7dc535306090e0a1eefde015d1d", func := "loop.example/disclosurecontrol/laws.FnExactAnonBest", spec := "fnExactAnonBest", unfollowed := true, recurses := true, plainKeys := false, apart := false, narrowed := true }
def FnExactAnonBestUptoSaid : Prop := fnExactAnonBestUptoRow.holds Try.pinned (OpenSpec.upto fnExactAnonBestSpec)

end Rows
end Go.Proofs.Ytofobkamnolddaa
