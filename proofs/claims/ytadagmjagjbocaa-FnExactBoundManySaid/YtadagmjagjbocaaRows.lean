/-
  No cell of these rows narrows 'for every input' (looked for: loops, veiled, ifaces, maps, wideKeys, modest, calm, conditions, laid).
  DERIVED. THE GIVEN ROWS OF THIS SEAT. 5 by the template 'for every input the law returns true; each argument reads behind the call as it read before'; 0 by the template 'total and deterministic' (their statements: YtadagmjagjbocaaTotals.lean).
  GIVEN WITH THE SEED: the statements are not yours to turn. If you find one false, say at which input.
  Laid BY PROGRAM, IN A SANDBOX (cutbox-rows.mjs): the forced cells as the released guide's own fill.sh prints them over the translation fd859354348ac6cf… (all of the seat's roots in one cut). By AI agents, Wed Nov 11 2026. No macro, syntax, notation, axiom, sorry.
-/
import Derived.Test.YtadagmjagjbocaaChecked
import GoSem.Claim
import GoSem.ClaimJoined
import GoSem.ClaimMapViews
import Derived.JoinedTies
import Derived.KernelRfl
namespace Go.Proofs.Ytadagmjagjbocaa
/- THE CELL 'sum', in the pinned program and in every row, IS THE sha256 OF THE DUMP (.gsa) THAT YtadagmjagjbocaaProg.lean LOADS. Nothing in Lean hashes anything: it is a label: what it is worth is what the hold of that sum in a sandbox is worth. -/
noncomputable def Try.pinned : Pinned := { name := "ytadagmjagjbocaa", sum := "fd859354348ac6cfb0afb79ba23ca870a17870dc7bac26b3e66cf0abbbc9b99e", checked := Try.checked }
namespace Rows
def none {H : Type} : Left H := { results := [], args := [] }

/-- 'laws.FnExactFitTables': WHATEVER THE INPUT: true; the input reads as it did. -/
def fnExactFitTablesSpec : ChangeSpec := { name := "fnExactFitTables", fn := fun _ => fun
  | [d1, d2, d3] => { results := [.lit (.bool true)], args := [d1, d2, d3] }
  | _ => none }
def fnExactFitTablesRow : OpenClaim := { program := "ytadagmjagjbocaa", sum := "fd859354348ac6cfb0afb79ba23ca870a17870dc7bac26b3e66cf0abbbc9b99e", func := "loop.example/disclosurecontrol/laws.FnExactFitTables", spec := "fnExactFitTables", unfollowed := true, recurses := true, apart := false }
def FnExactFitTablesSaid : Prop := fnExactFitTablesRow.holds Try.pinned (OpenSpec.ofChange fnExactFitTablesSpec)

/-- ITS FALSE NEIGHBOUR: 'it returns false'. Refute it at one input. -/
def fnExactFitTablesWrong : ChangeSpec := { name := "fnExactFitTables", fn := fun _ => fun
  | [d1, d2, d3] => { results := [.lit (.bool false)], args := [d1, d2, d3] }
  | _ => none }
def FnExactFitTablesWrongFalsely : Prop := fnExactFitTablesRow.holds Try.pinned (OpenSpec.ofChange fnExactFitTablesWrong)

/-- 'laws.FnExactBoundHigh': WHATEVER THE INPUT: true; the input reads as it did. -/
def fnExactBoundHighSpec : ChangeSpec := { name := "fnExactBoundHigh", fn := fun _ => fun
  | [d1, d2, d3, d4] => { results := [.lit (.bool true)], args := [d1, d2, d3, d4] }
  | _ => none }
def fnExactBoundHighRow : OpenClaim := { program := "ytadagmjagjbocaa", sum := "fd859354348ac6cfb0afb79ba23ca870a17870dc7bac26b3e66cf0abbbc9b99e", func := "loop.example/disclosurecontrol/laws.FnExactBoundHigh", spec := "fnExactBoundHigh", unfollowed := true, recurses := true, apart := false }
def FnExactBoundHighSaid : Prop := fnExactBoundHighRow.holds Try.pinned (OpenSpec.ofChange fnExactBoundHighSpec)

/-- ITS FALSE NEIGHBOUR: 'it returns false'. Refute it at one input. -/
def fnExactBoundHighWrong : ChangeSpec := { name := "fnExactBoundHigh", fn := fun _ => fun
  | [d1, d2, d3, d4] => { results := [.lit (.bool false)], args := [d1, d2, d3, d4] }
  | _ => none }
def FnExactBoundHighWrongFalsely : Prop := fnExactBoundHighRow.holds Try.pinned (OpenSpec.ofChange fnExactBoundHighWrong)

/-- 'laws.FnExactBoundLow': WHATEVER THE INPUT: true; the input reads as it did. -/
def fnExactBoundLowSpec : ChangeSpec := { name := "fnExactBoundLow", fn := fun _ => fun
  | [d1, d2, d3, d4] => { results := [.lit (.bool true)], args := [d1, d2, d3, d4] }
  | _ => none }
def fnExactBoundLowRow : OpenClaim := { program := "ytadagmjagjbocaa", sum := "fd859354348ac6cfb0afb79ba23ca870a17870dc7bac26b3e66cf0abbbc9b99e", func := "loop.example/disclosurecontrol/laws.FnExactBoundLow", spec := "fnExactBoundLow", unfollowed := true, recurses := true, apart := false }
def FnExactBoundLowSaid : Prop := fnExactBoundLowRow.holds Try.pinned (OpenSpec.ofChange fnExactBoundLowSpec)

/-- ITS FALSE NEIGHBOUR: 'it returns false'. Refute it at one input. -/
def fnExactBoundLowWrong : ChangeSpec := { name := "fnExactBoundLow", fn := fun _ => fun
  | [d1, d2, d3, d4] => { results := [.lit (.bool false)], args := [d1, d2, d3, d4] }
  | _ => none }
def FnExactBoundLowWrongFalsely : Prop := fnExactBoundLowRow.holds Try.pinned (OpenSpec.ofChange fnExactBoundLowWrong)

/-- 'laws.FnExactBoundTold': WHATEVER THE INPUT: true; the input reads as it did. -/
def fnExactBoundToldSpec : ChangeSpec := { name := "fnExactBoundTold", fn := fun _ => fun
  | [d1, d2, d3, d4] => { results := [.lit (.bool true)], args := [d1, d2, d3, d4] }
  | _ => none }
def fnExactBoundToldRow : OpenClaim := { program := "ytadagmjagjbocaa", sum := "fd859354348ac6cfb0afb79ba23ca870a17870dc7bac26b3e66cf0abbbc9b99e", func := "loop.example/disclosurecontrol/laws.FnExactBoundTold", spec := "fnExactBoundTold", unfollowed := true, recurses := true, apart := false }
def FnExactBoundToldSaid : Prop := fnExactBoundToldRow.holds Try.pinned (OpenSpec.ofChange fnExactBoundToldSpec)

/-- ITS FALSE NEIGHBOUR: 'it returns false'. Refute it at one input. -/
def fnExactBoundToldWrong : ChangeSpec := { name := "fnExactBoundTold", fn := fun _ => fun
  | [d1, d2, d3, d4] => { results := [.lit (.bool false)], args := [d1, d2, d3, d4] }
  | _ => none }
def FnExactBoundToldWrongFalsely : Prop := fnExactBoundToldRow.holds Try.pinned (OpenSpec.ofChange fnExactBoundToldWrong)

/-- 'laws.FnExactBoundMany': WHATEVER THE INPUT: true; the input reads as it did. -/
def fnExactBoundManySpec : ChangeSpec := { name := "fnExactBoundMany", fn := fun _ => fun
  | [d1, d2] => { results := [.lit (.bool true)], args := [d1, d2] }
  | _ => none }
def fnExactBoundManyRow : OpenClaim := { program := "ytadagmjagjbocaa", sum := "fd859354348ac6cfb0afb79ba23ca870a17870dc7bac26b3e66cf0abbbc9b99e", func := "loop.example/disclosurecontrol/laws.FnExactBoundMany", spec := "fnExactBoundMany", unfollowed := true, recurses := true, apart := false }
def FnExactBoundManySaid : Prop := fnExactBoundManyRow.holds Try.pinned (OpenSpec.ofChange fnExactBoundManySpec)

/-- ITS FALSE NEIGHBOUR: 'it returns false'. Refute it at one input. -/
def fnExactBoundManyWrong : ChangeSpec := { name := "fnExactBoundMany", fn := fun _ => fun
  | [d1, d2] => { results := [.lit (.bool false)], args := [d1, d2] }
  | _ => none }
def FnExactBoundManyWrongFalsely : Prop := fnExactBoundManyRow.holds Try.pinned (OpenSpec.ofChange fnExactBoundManyWrong)

/- THE SECOND FORM. 'bulk': how many values and letters a reading holds, each counted each time it is reached (what is shared counts as often as it is met; a slice's spare places count too). A statement '..UptoSaid' is the law's where the arguments, and the package variables that the reading takes, are together of bulk at most 1048576: NARROWER than '..Said'. Prove '..Said' where nothing that the law and all that it calls make is longer than what came in: it says more and counts as full. Else prove '..UptoSaid'. A law counts once. -/
mutual
def uptoBulk {H : Type} : DataW H → Nat
  | .lit (.string bytes) => bytes.length + 1
  | .lit _ => 1
  | .nil => 1
  | .ptr d => uptoBulk d + 1
  | .slice elems spare => uptoBulkAll elems + uptoBulkAll spare + 1
  | .agg parts => uptoBulkAll parts + 1
  | .iface _ d => uptoBulk d + 1
  | .map entries => uptoBulkEntries entries + 1
  | .held _ => 1
def uptoBulkAll {H : Type} : List (DataW H) → Nat
  | [] => 0
  | d :: r => uptoBulk d + uptoBulkAll r
def uptoBulkEntries {H : Type} : List (Lit × DataW H) → Nat
  | [] => 0
  | x :: r => uptoBulkEntry x + uptoBulkEntries r
def uptoBulkEntry {H : Type} : Lit × DataW H → Nat
  | (.string bytes, d) => bytes.length + uptoBulk d + 1
  | (_, d) => uptoBulk d + 1
 end
def uptoSmall : (H : Type) → List (DataW H) → Bool := fun _ ds => decide (uptoBulkAll ds ≤ 1048576)
def OpenSpec.upto (s : _root_.Go.ChangeSpec) : _root_.Go.OpenSpec := { _root_.Go.OpenSpec.ofChange s with cond := some uptoSmall }

/-- 'laws.FnExactFitTables', WHERE WHAT IT READS IS OF BULK AT MOST 1048576: true; the input reads as it did. -/
def fnExactFitTablesUptoRow : OpenClaim := { program := "ytadagmjagjbocaa", sum := "fd859354348ac6cfb0afb79ba23ca870a17870dc7bac26b3e66cf0abbbc9b99e", func := "loop.example/disclosurecontrol/laws.FnExactFitTables", spec := "fnExactFitTables", unfollowed := true, recurses := true, apart := false, narrowed := true }
def FnExactFitTablesUptoSaid : Prop := fnExactFitTablesUptoRow.holds Try.pinned (OpenSpec.upto fnExactFitTablesSpec)

/-- 'laws.FnExactBoundHigh', WHERE WHAT IT READS IS OF BULK AT MOST 1048576: true; the input reads as it did. -/
def fnExactBoundHighUptoRow : OpenClaim := { program := "ytadagmjagjbocaa", sum := "fd859354348ac6cfb0afb79ba23ca870a17870dc7bac26b3e66cf0abbbc9b99e", func := "loop.example/disclosurecontrol/laws.FnExactBoundHigh", spec := "fnExactBoundHigh", unfollowed := true, recurses := true, apart := false, narrowed := true }
def FnExactBoundHighUptoSaid : Prop := fnExactBoundHighUptoRow.holds Try.pinned (OpenSpec.upto fnExactBoundHighSpec)

/-- 'laws.FnExactBoundLow', WHERE WHAT IT READS IS OF BULK AT MOST 1048576: true; the input reads as it did. -/
def fnExactBoundLowUptoRow : OpenClaim := { program := "ytadagmjagjbocaa", sum := "fd859354348ac6cfb0afb79ba23ca870a17870dc7bac26b3e66cf0abbbc9b99e", func := "loop.example/disclosurecontrol/laws.FnExactBoundLow", spec := "fnExactBoundLow", unfollowed := true, recurses := true, apart := false, narrowed := true }
def FnExactBoundLowUptoSaid : Prop := fnExactBoundLowUptoRow.holds Try.pinned (OpenSpec.upto fnExactBoundLowSpec)

/-- 'laws.FnExactBoundTold', WHERE WHAT IT READS IS OF BULK AT MOST 1048576: true; the input reads as it did. -/
def fnExactBoundToldUptoRow : OpenClaim := { program := "ytadagmjagjbocaa", sum := "fd859354348ac6cfb0afb79ba23ca870a17870dc7bac26b3e66cf0abbbc9b99e", func := "loop.example/disclosurecontrol/laws.FnExactBoundTold", spec := "fnExactBoundTold", unfollowed := true, recurses := true, apart := false, narrowed := true }
def FnExactBoundToldUptoSaid : Prop := fnExactBoundToldUptoRow.holds Try.pinned (OpenSpec.upto fnExactBoundToldSpec)

/-- 'laws.FnExactBoundMany', WHERE WHAT IT READS IS OF BULK AT MOST 1048576: true; the input reads as it did. -/
def fnExactBoundManyUptoRow : OpenClaim := { program := "ytadagmjagjbocaa", sum := "fd859354348ac6cfb0afb79ba23ca870a17870dc7bac26b3e66cf0abbbc9b99e", func := "loop.example/disclosurecontrol/laws.FnExactBoundMany", spec := "fnExactBoundMany", unfollowed := true, recurses := true, apart := false, narrowed := true }
def FnExactBoundManyUptoSaid : Prop := fnExactBoundManyUptoRow.holds Try.pinned (OpenSpec.upto fnExactBoundManySpec)

end Rows
end Go.Proofs.Ytadagmjagjbocaa
