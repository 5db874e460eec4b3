/-
  No cell of these rows narrows 'for every input' (looked for: loops, veiled, ifaces, maps, wideKeys, modest, calm, conditions, laid).
  DERIVED. THE GIVEN ROWS OF THIS SEAT. 7 by the template 'for every input the law returns true; each argument reads behind the call as it read before'; 0 by the template 'total and deterministic' (their statements: YtodiadipbpchpaaTotals.lean).
  GIVEN WITH THE SEED: the statements are not yours to turn. If you find one false, say at which input.
  Laid BY PROGRAM, IN A SANDBOX (cutbox-rows.mjs): the forced cells as the released guide's own fill.sh prints them over the translation 7e512a1de85800dc… (all of the seat's roots in one cut). By AI agents, Wed Nov 11 2026. No macro, syntax, notation, axiom, sorry.
-/
import Derived.Test.YtodiadipbpchpaaChecked
import GoSem.Claim
import GoSem.ClaimJoined
import GoSem.ClaimMapViews
import Derived.JoinedTies
import Derived.KernelRfl
namespace Go.Proofs.Ytodiadipbpchpaa
/- THE CELL 'sum', in the pinned program and in every row, IS THE sha256 OF THE DUMP (.gsa) THAT YtodiadipbpchpaaProg.lean LOADS. Nothing in Lean hashes anything: it is a label: what it is worth is what the hold of that sum in a sandbox is worth. -/
noncomputable def Try.pinned : Pinned := { name := "ytodiadipbpchpaa", sum := "7e512a1de85800dcbfbae17ea499d3242db7a1ac4fb23c335c5aa9e106b2d572", checked := Try.checked }
namespace Rows
def none {H : Type} : Left H := { results := [], args := [] }

/-- 'laws.FnDiverseOk': WHATEVER THE INPUT: true; the input reads as it did. -/
def fnDiverseOkSpec : ChangeSpec := { name := "fnDiverseOk", fn := fun _ => fun
  | [d] => { results := [.lit (.bool true)], args := [d] }
  | _ => none }
def fnDiverseOkRow : OpenClaim := { program := "ytodiadipbpchpaa", sum := "7e512a1de85800dcbfbae17ea499d3242db7a1ac4fb23c335c5aa9e106b2d572", func := "loop.example/disclosurecontrol/laws.FnDiverseOk", spec := "fnDiverseOk", plainKeys := false, apart := false }
def FnDiverseOkSaid : Prop := fnDiverseOkRow.holds Try.pinned (OpenSpec.ofChange fnDiverseOkSpec)

/-- ITS FALSE NEIGHBOUR: 'it returns false'. Refute it at one input. -/
def fnDiverseOkWrong : ChangeSpec := { name := "fnDiverseOk", fn := fun _ => fun
  | [d] => { results := [.lit (.bool false)], args := [d] }
  | _ => none }
def FnDiverseOkWrongFalsely : Prop := fnDiverseOkRow.holds Try.pinned (OpenSpec.ofChange fnDiverseOkWrong)

/-- 'laws.FnDiverseLess': WHATEVER THE INPUT: true; the input reads as it did. -/
def fnDiverseLessSpec : ChangeSpec := { name := "fnDiverseLess", fn := fun _ => fun
  | [d1, d2] => { results := [.lit (.bool true)], args := [d1, d2] }
  | _ => none }
def fnDiverseLessRow : OpenClaim := { program := "ytodiadipbpchpaa", sum := "7e512a1de85800dcbfbae17ea499d3242db7a1ac4fb23c335c5aa9e106b2d572", func := "loop.example/disclosurecontrol/laws.FnDiverseLess", spec := "fnDiverseLess", plainKeys := false, apart := false }
def FnDiverseLessSaid : Prop := fnDiverseLessRow.holds Try.pinned (OpenSpec.ofChange fnDiverseLessSpec)

/-- ITS FALSE NEIGHBOUR: 'it returns false'. Refute it at one input. -/
def fnDiverseLessWrong : ChangeSpec := { name := "fnDiverseLess", fn := fun _ => fun
  | [d1, d2] => { results := [.lit (.bool false)], args := [d1, d2] }
  | _ => none }
def FnDiverseLessWrongFalsely : Prop := fnDiverseLessRow.holds Try.pinned (OpenSpec.ofChange fnDiverseLessWrong)

/-- 'laws.FnDiverseJoin': WHATEVER THE INPUT: true; the input reads as it did. -/
def fnDiverseJoinSpec : ChangeSpec := { name := "fnDiverseJoin", fn := fun _ => fun
  | [d] => { results := [.lit (.bool true)], args := [d] }
  | _ => none }
def fnDiverseJoinRow : OpenClaim := { program := "ytodiadipbpchpaa", sum := "7e512a1de85800dcbfbae17ea499d3242db7a1ac4fb23c335c5aa9e106b2d572", func := "loop.example/disclosurecontrol/laws.FnDiverseJoin", spec := "fnDiverseJoin", plainKeys := false, apart := false }
def FnDiverseJoinSaid : Prop := fnDiverseJoinRow.holds Try.pinned (OpenSpec.ofChange fnDiverseJoinSpec)

/-- ITS FALSE NEIGHBOUR: 'it returns false'. Refute it at one input. -/
def fnDiverseJoinWrong : ChangeSpec := { name := "fnDiverseJoin", fn := fun _ => fun
  | [d] => { results := [.lit (.bool false)], args := [d] }
  | _ => none }
def FnDiverseJoinWrongFalsely : Prop := fnDiverseJoinRow.holds Try.pinned (OpenSpec.ofChange fnDiverseJoinWrong)

/-- 'laws.FnExactDiverseSize': WHATEVER THE INPUT: true; the input reads as it did. -/
def fnExactDiverseSizeSpec : ChangeSpec := { name := "fnExactDiverseSize", fn := fun _ => fun
  | [d1, d2, d3, d4] => { results := [.lit (.bool true)], args := [d1, d2, d3, d4] }
  | _ => none }
def fnExactDiverseSizeRow : OpenClaim := { program := "ytodiadipbpchpaa", sum := "7e512a1de85800dcbfbae17ea499d3242db7a1ac4fb23c335c5aa9e106b2d572", func := "loop.example/disclosurecontrol/laws.FnExactDiverseSize", spec := "fnExactDiverseSize", plainKeys := false, apart := false }
def FnExactDiverseSizeSaid : Prop := fnExactDiverseSizeRow.holds Try.pinned (OpenSpec.ofChange fnExactDiverseSizeSpec)

/-- ITS FALSE NEIGHBOUR: 'it returns false'. Refute it at one input. -/
def fnExactDiverseSizeWrong : ChangeSpec := { name := "fnExactDiverseSize", fn := fun _ => fun
  | [d1, d2, d3, d4] => { results := [.lit (.bool false)], args := [d1, d2, d3, d4] }
  | _ => none }
def FnExactDiverseSizeWrongFalsely : Prop := fnExactDiverseSizeRow.holds Try.pinned (OpenSpec.ofChange fnExactDiverseSizeWrong)

/-- 'laws.FnExactDiverseLeast': WHATEVER THE INPUT: true; the input reads as it did. -/
def fnExactDiverseLeastSpec : ChangeSpec := { name := "fnExactDiverseLeast", fn := fun _ => fun
  | [d1, d2, d3] => { results := [.lit (.bool true)], args := [d1, d2, d3] }
  | _ => none }
def fnExactDiverseLeastRow : OpenClaim := { program := "ytodiadipbpchpaa", sum := "7e512a1de85800dcbfbae17ea499d3242db7a1ac4fb23c335c5aa9e106b2d572", func := "loop.example/disclosurecontrol/laws.FnExactDiverseLeast", spec := "fnExactDiverseLeast", plainKeys := false, apart := false }
def FnExactDiverseLeastSaid : Prop := fnExactDiverseLeastRow.holds Try.pinned (OpenSpec.ofChange fnExactDiverseLeastSpec)

/-- ITS FALSE NEIGHBOUR: 'it returns false'. Refute it at one input. -/
def fnExactDiverseLeastWrong : ChangeSpec := { name := "fnExactDiverseLeast", fn := fun _ => fun
  | [d1, d2, d3] => { results := [.lit (.bool false)], args := [d1, d2, d3] }
  | _ => none }
def FnExactDiverseLeastWrongFalsely : Prop := fnExactDiverseLeastRow.holds Try.pinned (OpenSpec.ofChange fnExactDiverseLeastWrong)

/-- 'laws.FnExactDiverseOk': WHATEVER THE INPUT: true; the input reads as it did. -/
def fnExactDiverseOkSpec : ChangeSpec := { name := "fnExactDiverseOk", fn := fun _ => fun
  | [d1, d2, d3, d4, d5] => { results := [.lit (.bool true)], args := [d1, d2, d3, d4, d5] }
  | _ => none }
def fnExactDiverseOkRow : OpenClaim := { program := "ytodiadipbpchpaa", sum := "7e512a1de85800dcbfbae17ea499d3242db7a1ac4fb23c335c5aa9e106b2d572", func := "loop.example/disclosurecontrol/laws.FnExactDiverseOk", spec := "fnExactDiverseOk", plainKeys := false, apart := false }
def FnExactDiverseOkSaid : Prop := fnExactDiverseOkRow.holds Try.pinned (OpenSpec.ofChange fnExactDiverseOkSpec)

/-- ITS FALSE NEIGHBOUR: 'it returns false'. Refute it at one input. -/
def fnExactDiverseOkWrong : ChangeSpec := { name := "fnExactDiverseOk", fn := fun _ => fun
  | [d1, d2, d3, d4, d5] => { results := [.lit (.bool false)], args := [d1, d2, d3, d4, d5] }
  | _ => none }
def FnExactDiverseOkWrongFalsely : Prop := fnExactDiverseOkRow.holds Try.pinned (OpenSpec.ofChange fnExactDiverseOkWrong)

/-- 'laws.FnExactDiverseFar': WHATEVER THE INPUT: true; the input reads as it did. -/
def fnExactDiverseFarSpec : ChangeSpec := { name := "fnExactDiverseFar", fn := fun _ => fun
  | [d1, d2, d3, d4] => { results := [.lit (.bool true)], args := [d1, d2, d3, d4] }
  | _ => none }
def fnExactDiverseFarRow : OpenClaim := { program := "ytodiadipbpchpaa", sum := "7e512a1de85800dcbfbae17ea499d3242db7a1ac4fb23c335c5aa9e106b2d572", func := "loop.example/disclosurecontrol/laws.FnExactDiverseFar", spec := "fnExactDiverseFar", plainKeys := false, apart := false }
def FnExactDiverseFarSaid : Prop := fnExactDiverseFarRow.holds Try.pinned (OpenSpec.ofChange fnExactDiverseFarSpec)

/-- ITS FALSE NEIGHBOUR: 'it returns false'. Refute it at one input. -/
def fnExactDiverseFarWrong : ChangeSpec := { name := "fnExactDiverseFar", fn := fun _ => fun
  | [d1, d2, d3, d4] => { results := [.lit (.bool false)], args := [d1, d2, d3, d4] }
  | _ => none }
def FnExactDiverseFarWrongFalsely : Prop := fnExactDiverseFarRow.holds Try.pinned (OpenSpec.ofChange fnExactDiverseFarWrong)

/- THE SECOND FORM. 'bulk': how many values and letters a reading holds, each counted each time it is reached (what is shared counts as often as it is met; a slice's spare places count too). A statement '..UptoSaid' is the law's where the arguments, and the package variables that the reading takes, are together of bulk at most 1048576: NARROWER than '..Said'. Prove '..Said' where nothing that the law and all that it calls make is longer than what came in: it says more and counts as full. Else prove '..UptoSaid'. A law counts once. -/
mutual
def uptoBulk {H : Type} : DataW H → Nat
  | .lit (.string bytes) => bytes.length + 1
  | .lit _ => 1
  | .nil => 1
  | .ptr d => uptoBulk d + 1
  | .slice elems spare => uptoBulkAll elems + uptoBulkAll spare + 1
  | .agg parts => uptoBulkAll parts + 1
  | .iface _ d => uptoBulk d + 1
  | .map entries => uptoBulkEntries entries + 1
  | .held _ => 1
def uptoBulkAll {H : Type} : List (DataW H) → Nat
  | [] => 0
  | d :: r => uptoBulk d + uptoBulkAll r
def uptoBulkEntries {H : Type} : List (Lit × DataW H) → Nat
  | [] => 0
  | x :: r => uptoBulkEntry x + uptoBulkEntries r
def uptoBulkEntry {H : Type} : Lit × DataW H → Nat
  | (.string bytes, d) => bytes.length + uptoBulk d + 1
  | (_, d) => uptoBulk d + 1
 end
def uptoSmall : (H : Type) → List (DataW H) → Bool := fun _ ds => decide (uptoBulkAll ds ≤ 1048576)
def OpenSpec.upto (s : _root_.Go.ChangeSpec) : _root_.Go.OpenSpec := { _root_.Go.OpenSpec.ofChange s with cond := some uptoSmall }

/-- 'laws.FnDiverseOk', WHERE WHAT IT READS IS OF BULK AT MOST 1048576: true; the input reads as it did. -/
def fnDiverseOkUptoRow : OpenClaim := { program := "ytodiadipbpchpaa", sum := "7e512a1de85800dcbfbae17ea499d3242db7a1ac4fb23c335c5aa9e106b2d572", func := "loop.example/disclosurecontrol/laws.FnDiverseOk", spec := "fnDiverseOk", plainKeys := false, apart := false, narrowed := true }
def FnDiverseOkUptoSaid : Prop := fnDiverseOkUptoRow.holds Try.pinned (OpenSpec.upto fnDiverseOkSpec)

/-- 'laws.FnDiverseLess', WHERE WHAT IT READS IS OF BULK AT MOST 1048576: true; the input reads as it did. -/
def fnDiverseLessUptoRow : OpenClaim := { program := "ytodiadipbpchpaa", sum := "7e512a1de85800dcbfbae17ea499d3242db7a1ac4fb23c335c5aa9e106b2d572", func := "loop.example/disclosurecontrol/laws.FnDiverseLess", spec := "fnDiverseLess", plainKeys := false, apart := false, narrowed := true }
def FnDiverseLessUptoSaid : Prop := fnDiverseLessUptoRow.holds Try.pinned (OpenSpec.upto fnDiverseLessSpec)

/-- 'laws.FnDiverseJoin', WHERE WHAT IT READS IS OF BULK AT MOST 1048576: true; the input reads as it did. -/
def fnDiverseJoinUptoRow : OpenClaim := { program := "ytodiadipbpchpaa", sum := "7e512a1de85800dcbfbae17ea499d3242db7a1ac4fb23c335c5aa9e106b2d572", func := "loop.example/disclosurecontrol/laws.FnDiverseJoin", spec := "fnDiverseJoin", plainKeys := false, apart := false, narrowed := true }
def FnDiverseJoinUptoSaid : Prop := fnDiverseJoinUptoRow.holds Try.pinned (OpenSpec.upto fnDiverseJoinSpec)

/-- 'laws.FnExactDiverseSize', WHERE WHAT IT READS IS OF BULK AT MOST 1048576: true; the input reads as it did. -/
def fnExactDiverseSizeUptoRow : OpenClaim := { program := "ytodiadipbpchpaa", sum := "7e512a1de85800dcbfbae17ea499d3242db7a1ac4fb23c335c5aa9e106b2d572", func := "loop.example/disclosurecontrol/laws.FnExactDiverseSize", spec := "fnExactDiverseSize", plainKeys := false, apart := false, narrowed := true }
def FnExactDiverseSizeUptoSaid : Prop := fnExactDiverseSizeUptoRow.holds Try.pinned (OpenSpec.upto fnExactDiverseSizeSpec)

/-- 'laws.FnExactDiverseLeast', WHERE WHAT IT READS IS OF BULK AT MOST 1048576: true; the input reads as it did. -/
def fnExactDiverseLeastUptoRow : OpenClaim := { program := "ytodiadipbpchpaa", sum := "7e512a1de85800dcbfbae17ea499d3242db7a1ac4fb23c335c5aa9e106b2d572", func := "loop.example/disclosurecontrol/laws.FnExactDiverseLeast", spec := "fnExactDiverseLeast", plainKeys := false, apart := false, narrowed := true }
def FnExactDiverseLeastUptoSaid : Prop := fnExactDiverseLeastUptoRow.holds Try.pinned (OpenSpec.upto fnExactDiverseLeastSpec)

/-- 'laws.FnExactDiverseOk', WHERE WHAT IT READS IS OF BULK AT MOST 1048576: true; the input reads as it did. -/
def fnExactDiverseOkUptoRow : OpenClaim := { program := "ytodiadipbpchpaa", sum := "7e512a1de85800dcbfbae17ea499d3242db7a1ac4fb23c335c5aa9e106b2d572", func := "loop.example/disclosurecontrol/laws.FnExactDiverseOk", spec := "fnExactDiverseOk", plainKeys := false, apart := false, narrowed := true }
def FnExactDiverseOkUptoSaid : Prop := fnExactDiverseOkUptoRow.holds Try.pinned (OpenSpec.upto fnExactDiverseOkSpec)

/-- 'laws.FnExactDiverseFar', WHERE WHAT IT READS IS OF BULK AT MOST 1048576: true; the input reads as it did. -/
def fnExactDiverseFarUptoRow : OpenClaim := { program := "ytodiadipbpchpaa", sum := "7e512a1de85800dcbfbae17ea499d3242db7a1ac4fb23c335c5aa9e106b2d572", func := "loop.example/disclosurecontrol/laws.FnExactDiverseFar", spec := "fnExactDiverseFar", plainKeys := false, apart := false, narrowed := true }
def FnExactDiverseFarUptoSaid : Prop := fnExactDiverseFarUptoRow.holds Try.pinned (OpenSpec.upto fnExactDiverseFarSpec)

end Rows
end Go.Proofs.Ytodiadipbpchpaa
