/-
  No cell of these rows narrows 'for every input' (looked for: loops, veiled, ifaces, maps, wideKeys, modest, calm, conditions, laid).
  DERIVED. THE GIVEN ROWS OF THIS SEAT. 10 by the template 'for every input the law returns true; each argument reads behind the call as it read before'; 0 by the template 'total and deterministic' (their statements: YtaaljmmnfgghfaaTotals.lean).
  GIVEN WITH THE SEED: the statements are not yours to turn. If you find one false, say at which input.
  Laid BY PROGRAM, IN A SANDBOX (cutbox-rows.mjs): the forced cells as the released guide's own fill.sh prints them over the translation c5bd81d8fe93815d… (all of the seat's roots in one cut). By AI agents, Wed Nov 11 2026. No macro, syntax, notation, axiom, sorry.
-/
import Derived.Test.YtaaljmmnfgghfaaChecked
import GoSem.Claim
import GoSem.ClaimJoined
import GoSem.ClaimMapViews
import Derived.JoinedTies
import Derived.KernelRfl
namespace Go.Proofs.Ytaaljmmnfgghfaa
/- THE CELL 'sum', in the pinned program and in every row, IS THE sha256 OF THE DUMP (.gsa) THAT YtaaljmmnfgghfaaProg.lean LOADS. Nothing in Lean hashes anything: it is a label: what it is worth is what the hold of that sum in a sandbox is worth. -/
noncomputable def Try.pinned : Pinned := { name := "ytaaljmmnfgghfaa", sum := "c5bd81d8fe93815dff48c99ce648c2dd3f0e0d60bf482f7a4f27e4f0a8c9028f", checked := Try.checked }
namespace Rows
def none {H : Type} : Left H := { results := [], args := [] }

/-- 'laws.FnDiverse': WHATEVER THE INPUT: true; the input reads as it did. -/
def fnDiverseSpec : ChangeSpec := { name := "fnDiverse", fn := fun _ => fun
  | [d] => { results := [.lit (.bool true)], args := [d] }
  | _ => none }
def fnDiverseRow : OpenClaim := { program := "ytaaljmmnfgghfaa", sum := "c5bd81d8fe93815dff48c99ce648c2dd3f0e0d60bf482f7a4f27e4f0a8c9028f", func := "loop.example/disclosurecontrol/laws.FnDiverse", spec := "fnDiverse", plainKeys := false, apart := false }
def FnDiverseSaid : Prop := fnDiverseRow.holds Try.pinned (OpenSpec.ofChange fnDiverseSpec)

/-- ITS FALSE NEIGHBOUR: 'it returns false'. Refute it at one input. -/
def fnDiverseWrong : ChangeSpec := { name := "fnDiverse", fn := fun _ => fun
  | [d] => { results := [.lit (.bool false)], args := [d] }
  | _ => none }
def FnDiverseWrongFalsely : Prop := fnDiverseRow.holds Try.pinned (OpenSpec.ofChange fnDiverseWrong)

/-- 'laws.FnDiverseOne': WHATEVER THE INPUT: true; the input reads as it did. -/
def fnDiverseOneSpec : ChangeSpec := { name := "fnDiverseOne", fn := fun _ => fun
  | [d] => { results := [.lit (.bool true)], args := [d] }
  | _ => none }
def fnDiverseOneRow : OpenClaim := { program := "ytaaljmmnfgghfaa", sum := "c5bd81d8fe93815dff48c99ce648c2dd3f0e0d60bf482f7a4f27e4f0a8c9028f", func := "loop.example/disclosurecontrol/laws.FnDiverseOne", spec := "fnDiverseOne", plainKeys := false, apart := false }
def FnDiverseOneSaid : Prop := fnDiverseOneRow.holds Try.pinned (OpenSpec.ofChange fnDiverseOneSpec)

/-- ITS FALSE NEIGHBOUR: 'it returns false'. Refute it at one input. -/
def fnDiverseOneWrong : ChangeSpec := { name := "fnDiverseOne", fn := fun _ => fun
  | [d] => { results := [.lit (.bool false)], args := [d] }
  | _ => none }
def FnDiverseOneWrongFalsely : Prop := fnDiverseOneRow.holds Try.pinned (OpenSpec.ofChange fnDiverseOneWrong)

/-- 'laws.FnDiverseSame': WHATEVER THE INPUT: true; the input reads as it did. -/
def fnDiverseSameSpec : ChangeSpec := { name := "fnDiverseSame", fn := fun _ => fun
  | [d] => { results := [.lit (.bool true)], args := [d] }
  | _ => none }
def fnDiverseSameRow : OpenClaim := { program := "ytaaljmmnfgghfaa", sum := "c5bd81d8fe93815dff48c99ce648c2dd3f0e0d60bf482f7a4f27e4f0a8c9028f", func := "loop.example/disclosurecontrol/laws.FnDiverseSame", spec := "fnDiverseSame", plainKeys := false, apart := false }
def FnDiverseSameSaid : Prop := fnDiverseSameRow.holds Try.pinned (OpenSpec.ofChange fnDiverseSameSpec)

/-- ITS FALSE NEIGHBOUR: 'it returns false'. Refute it at one input. -/
def fnDiverseSameWrong : ChangeSpec := { name := "fnDiverseSame", fn := fun _ => fun
  | [d] => { results := [.lit (.bool false)], args := [d] }
  | _ => none }
def FnDiverseSameWrongFalsely : Prop := fnDiverseSameRow.holds Try.pinned (OpenSpec.ofChange fnDiverseSameWrong)

/-- 'laws.FnDiverseAdd': WHATEVER THE INPUT: true; the input reads as it did. -/
def fnDiverseAddSpec : ChangeSpec := { name := "fnDiverseAdd", fn := fun _ => fun
  | [d1, d2] => { results := [.lit (.bool true)], args := [d1, d2] }
  | _ => none }
def fnDiverseAddRow : OpenClaim := { program := "ytaaljmmnfgghfaa", sum := "c5bd81d8fe93815dff48c99ce648c2dd3f0e0d60bf482f7a4f27e4f0a8c9028f", func := "loop.example/disclosurecontrol/laws.FnDiverseAdd", spec := "fnDiverseAdd", plainKeys := false, apart := false }
def FnDiverseAddSaid : Prop := fnDiverseAddRow.holds Try.pinned (OpenSpec.ofChange fnDiverseAddSpec)

/-- ITS FALSE NEIGHBOUR: 'it returns false'. Refute it at one input. -/
def fnDiverseAddWrong : ChangeSpec := { name := "fnDiverseAdd", fn := fun _ => fun
  | [d1, d2] => { results := [.lit (.bool false)], args := [d1, d2] }
  | _ => none }
def FnDiverseAddWrongFalsely : Prop := fnDiverseAddRow.holds Try.pinned (OpenSpec.ofChange fnDiverseAddWrong)

/-- 'laws.FnFar': WHATEVER THE INPUT: true; the input reads as it did. -/
def fnFarSpec : ChangeSpec := { name := "fnFar", fn := fun _ => fun
  | [d] => { results := [.lit (.bool true)], args := [d] }
  | _ => none }
def fnFarRow : OpenClaim := { program := "ytaaljmmnfgghfaa", sum := "c5bd81d8fe93815dff48c99ce648c2dd3f0e0d60bf482f7a4f27e4f0a8c9028f", func := "loop.example/disclosurecontrol/laws.FnFar", spec := "fnFar", plainKeys := false, apart := false }
def FnFarSaid : Prop := fnFarRow.holds Try.pinned (OpenSpec.ofChange fnFarSpec)

/-- ITS FALSE NEIGHBOUR: 'it returns false'. Refute it at one input. -/
def fnFarWrong : ChangeSpec := { name := "fnFar", fn := fun _ => fun
  | [d] => { results := [.lit (.bool false)], args := [d] }
  | _ => none }
def FnFarWrongFalsely : Prop := fnFarRow.holds Try.pinned (OpenSpec.ofChange fnFarWrong)

/-- 'laws.FnFarTwice': WHATEVER THE INPUT: true; the input reads as it did. -/
def fnFarTwiceSpec : ChangeSpec := { name := "fnFarTwice", fn := fun _ => fun
  | [d] => { results := [.lit (.bool true)], args := [d] }
  | _ => none }
def fnFarTwiceRow : OpenClaim := { program := "ytaaljmmnfgghfaa", sum := "c5bd81d8fe93815dff48c99ce648c2dd3f0e0d60bf482f7a4f27e4f0a8c9028f", func := "loop.example/disclosurecontrol/laws.FnFarTwice", spec := "fnFarTwice", plainKeys := false, apart := false }
def FnFarTwiceSaid : Prop := fnFarTwiceRow.holds Try.pinned (OpenSpec.ofChange fnFarTwiceSpec)

/-- ITS FALSE NEIGHBOUR: 'it returns false'. Refute it at one input. -/
def fnFarTwiceWrong : ChangeSpec := { name := "fnFarTwice", fn := fun _ => fun
  | [d] => { results := [.lit (.bool false)], args := [d] }
  | _ => none }
def FnFarTwiceWrongFalsely : Prop := fnFarTwiceRow.holds Try.pinned (OpenSpec.ofChange fnFarTwiceWrong)

/-- 'laws.FnFarAll': WHATEVER THE INPUT: true; the input reads as it did. -/
def fnFarAllSpec : ChangeSpec := { name := "fnFarAll", fn := fun _ => fun
  | [d] => { results := [.lit (.bool true)], args := [d] }
  | _ => none }
def fnFarAllRow : OpenClaim := { program := "ytaaljmmnfgghfaa", sum := "c5bd81d8fe93815dff48c99ce648c2dd3f0e0d60bf482f7a4f27e4f0a8c9028f", func := "loop.example/disclosurecontrol/laws.FnFarAll", spec := "fnFarAll", plainKeys := false, apart := false }
def FnFarAllSaid : Prop := fnFarAllRow.holds Try.pinned (OpenSpec.ofChange fnFarAllSpec)

/-- ITS FALSE NEIGHBOUR: 'it returns false'. Refute it at one input. -/
def fnFarAllWrong : ChangeSpec := { name := "fnFarAll", fn := fun _ => fun
  | [d] => { results := [.lit (.bool false)], args := [d] }
  | _ => none }
def FnFarAllWrongFalsely : Prop := fnFarAllRow.holds Try.pinned (OpenSpec.ofChange fnFarAllWrong)

/-- 'laws.FnDiverseLeast': WHATEVER THE INPUT: true; the input reads as it did. -/
def fnDiverseLeastSpec : ChangeSpec := { name := "fnDiverseLeast", fn := fun _ => fun
  | [d] => { results := [.lit (.bool true)], args := [d] }
  | _ => none }
def fnDiverseLeastRow : OpenClaim := { program := "ytaaljmmnfgghfaa", sum := "c5bd81d8fe93815dff48c99ce648c2dd3f0e0d60bf482f7a4f27e4f0a8c9028f", func := "loop.example/disclosurecontrol/laws.FnDiverseLeast", spec := "fnDiverseLeast", plainKeys := false, apart := false }
def FnDiverseLeastSaid : Prop := fnDiverseLeastRow.holds Try.pinned (OpenSpec.ofChange fnDiverseLeastSpec)

/-- ITS FALSE NEIGHBOUR: 'it returns false'. Refute it at one input. -/
def fnDiverseLeastWrong : ChangeSpec := { name := "fnDiverseLeast", fn := fun _ => fun
  | [d] => { results := [.lit (.bool false)], args := [d] }
  | _ => none }
def FnDiverseLeastWrongFalsely : Prop := fnDiverseLeastRow.holds Try.pinned (OpenSpec.ofChange fnDiverseLeastWrong)

/-- 'laws.FnDiverseOrder': WHATEVER THE INPUT: true; the input reads as it did. -/
def fnDiverseOrderSpec : ChangeSpec := { name := "fnDiverseOrder", fn := fun _ => fun
  | [d1, d2] => { results := [.lit (.bool true)], args := [d1, d2] }
  | _ => none }
def fnDiverseOrderRow : OpenClaim := { program := "ytaaljmmnfgghfaa", sum := "c5bd81d8fe93815dff48c99ce648c2dd3f0e0d60bf482f7a4f27e4f0a8c9028f", func := "loop.example/disclosurecontrol/laws.FnDiverseOrder", spec := "fnDiverseOrder", plainKeys := false, apart := false }
def FnDiverseOrderSaid : Prop := fnDiverseOrderRow.holds Try.pinned (OpenSpec.ofChange fnDiverseOrderSpec)

/-- ITS FALSE NEIGHBOUR: 'it returns false'. Refute it at one input. -/
def fnDiverseOrderWrong : ChangeSpec := { name := "fnDiverseOrder", fn := fun _ => fun
  | [d1, d2] => { results := [.lit (.bool false)], args := [d1, d2] }
  | _ => none }
def FnDiverseOrderWrongFalsely : Prop := fnDiverseOrderRow.holds Try.pinned (OpenSpec.ofChange fnDiverseOrderWrong)

/-- 'laws.FnDiverseLeastTop': WHATEVER THE INPUT: true; the input reads as it did. -/
def fnDiverseLeastTopSpec : ChangeSpec := { name := "fnDiverseLeastTop", fn := fun _ => fun
  | [d] => { results := [.lit (.bool true)], args := [d] }
  | _ => none }
def fnDiverseLeastTopRow : OpenClaim := { program := "ytaaljmmnfgghfaa", sum := "c5bd81d8fe93815dff48c99ce648c2dd3f0e0d60bf482f7a4f27e4f0a8c9028f", func := "loop.example/disclosurecontrol/laws.FnDiverseLeastTop", spec := "fnDiverseLeastTop", plainKeys := false, apart := false }
def FnDiverseLeastTopSaid : Prop := fnDiverseLeastTopRow.holds Try.pinned (OpenSpec.ofChange fnDiverseLeastTopSpec)

/-- ITS FALSE NEIGHBOUR: 'it returns false'. Refute it at one input. -/
def fnDiverseLeastTopWrong : ChangeSpec := { name := "fnDiverseLeastTop", fn := fun _ => fun
  | [d] => { results := [.lit (.bool false)], args := [d] }
  | _ => none }
def FnDiverseLeastTopWrongFalsely : Prop := fnDiverseLeastTopRow.holds Try.pinned (OpenSpec.ofChange fnDiverseLeastTopWrong)

/- THE SECOND FORM. 'bulk': how many values and letters a reading holds, each counted each time it is reached (what is shared counts as often as it is met; a slice's spare places count too). A statement '..UptoSaid' is the law's where the arguments, and the package variables that the reading takes, are together of bulk at most 1048576: NARROWER than '..Said'. Prove '..Said' where nothing that the law and all that it calls make is longer than what came in: it says more and counts as full. Else prove '..UptoSaid'. A law counts once. -/
mutual
def uptoBulk {H : Type} : DataW H → Nat
  | .lit (.string bytes) => bytes.length + 1
  | .lit _ => 1
  | .nil => 1
  | .ptr d => uptoBulk d + 1
  | .slice elems spare => uptoBulkAll elems + uptoBulkAll spare + 1
  | .agg parts => uptoBulkAll parts + 1
  | .iface _ d => uptoBulk d + 1
  | .map entries => uptoBulkEntries entries + 1
  | .held _ => 1
def uptoBulkAll {H : Type} : List (DataW H) → Nat
  | [] => 0
  | d :: r => uptoBulk d + uptoBulkAll r
def uptoBulkEntries {H : Type} : List (Lit × DataW H) → Nat
  | [] => 0
  | x :: r => uptoBulkEntry x + uptoBulkEntries r
def uptoBulkEntry {H : Type} : Lit × DataW H → Nat
  | (.string bytes, d) => bytes.length + uptoBulk d + 1
  | (_, d) => uptoBulk d + 1
 end
def uptoSmall : (H : Type) → List (DataW H) → Bool := fun _ ds => decide (uptoBulkAll ds ≤ 1048576)
def OpenSpec.upto (s : _root_.Go.ChangeSpec) : _root_.Go.OpenSpec := { _root_.Go.OpenSpec.ofChange s with cond := some uptoSmall }

/-- 'laws.FnDiverse', WHERE WHAT IT READS IS OF BULK AT MOST 1048576: true; the input reads as it did. -/
def fnDiverseUptoRow : OpenClaim := { program := "ytaaljmmnfgghfaa", sum := "c5bd81d8fe93815dff48c99ce648c2dd3f0e0d60bf482f7a4f27e4f0a8c9028f", func := "loop.example/disclosurecontrol/laws.FnDiverse", spec := "fnDiverse", plainKeys := false, apart := false, narrowed := true }
def FnDiverseUptoSaid : Prop := fnDiverseUptoRow.holds Try.pinned (OpenSpec.upto fnDiverseSpec)

/-- 'laws.FnDiverseOne', WHERE WHAT IT READS IS OF BULK AT MOST 1048576: true; the input reads as it did. -/
def fnDiverseOneUptoRow : OpenClaim := { program := "ytaaljmmnfgghfaa", sum := "c5bd81d8fe93815dff48c99ce648c2dd3f0e0d60bf482f7a4f27e4f0a8c9028f", func := "loop.example/disclosurecontrol/laws.FnDiverseOne", spec := "fnDiverseOne", plainKeys := false, apart := false, narrowed := true }
def FnDiverseOneUptoSaid : Prop := fnDiverseOneUptoRow.holds Try.pinned (OpenSpec.upto fnDiverseOneSpec)

/-- 'laws.FnDiverseSame', WHERE WHAT IT READS IS OF BULK AT MOST 1048576: true; the input reads as it did. -/
def fnDiverseSameUptoRow : OpenClaim := { program := "ytaaljmmnfgghfaa", sum := "c5bd81d8fe93815dff48c99ce648c2dd3f0e0d60bf482f7a4f27e4f0a8c9028f", func := "loop.example/disclosurecontrol/laws.FnDiverseSame", spec := "fnDiverseSame", plainKeys := false, apart := false, narrowed := true }
def FnDiverseSameUptoSaid : Prop := fnDiverseSameUptoRow.holds Try.pinned (OpenSpec.upto fnDiverseSameSpec)

/-- 'laws.FnDiverseAdd', WHERE WHAT IT READS IS OF BULK AT MOST 1048576: true; the input reads as it did. -/
def fnDiverseAddUptoRow : OpenClaim := { program := "ytaaljmmnfgghfaa", sum := "c5bd81d8fe93815dff48c99ce648c2dd3f0e0d60bf482f7a4f27e4f0a8c9028f", func := "loop.example/disclosurecontrol/laws.FnDiverseAdd", spec := "fnDiverseAdd", plainKeys := false, apart := false, narrowed := true }
def FnDiverseAddUptoSaid : Prop := fnDiverseAddUptoRow.holds Try.pinned (OpenSpec.upto fnDiverseAddSpec)

/-- 'laws.FnFar', WHERE WHAT IT READS IS OF BULK AT MOST 1048576: true; the input reads as it did. -/
def fnFarUptoRow : OpenClaim := { program := "ytaaljmmnfgghfaa", sum := "c5bd81d8fe93815dff48c99ce648c2dd3f0e0d60bf482f7a4f27e4f0a8c9028f", func := "loop.example/disclosurecontrol/laws.FnFar", spec := "fnFar", plainKeys := false, apart := false, narrowed := true }
def FnFarUptoSaid : Prop := fnFarUptoRow.holds Try.pinned (OpenSpec.upto fnFarSpec)

/-- 'laws.FnFarTwice', WHERE WHAT IT READS IS OF BULK AT MOST 1048576: true; the input reads as it did. -/
def fnFarTwiceUptoRow : OpenClaim := { program := "ytaaljmmnfgghfaa", sum := "c5bd81d8fe93815dff48c99ce648c2dd3f0e0d60bf482f7a4f27e4f0a8c9028f", func := "loop.example/disclosurecontrol/laws.FnFarTwice", spec := "fnFarTwice", plainKeys := false, apart := false, narrowed := true }
def FnFarTwiceUptoSaid : Prop := fnFarTwiceUptoRow.holds Try.pinned (OpenSpec.upto fnFarTwiceSpec)

/-- 'laws.FnFarAll', WHERE WHAT IT READS IS OF BULK AT MOST 1048576: true; the input reads as it did. -/
def fnFarAllUptoRow : OpenClaim := { program := "ytaaljmmnfgghfaa", sum := "c5bd81d8fe93815dff48c99ce648c2dd3f0e0d60bf482f7a4f27e4f0a8c9028f", func := "loop.example/disclosurecontrol/laws.FnFarAll", spec := "fnFarAll", plainKeys := false, apart := false, narrowed := true }
def FnFarAllUptoSaid : Prop := fnFarAllUptoRow.holds Try.pinned (OpenSpec.upto fnFarAllSpec)

/-- 'laws.FnDiverseLeast', WHERE WHAT IT READS IS OF BULK AT MOST 1048576: true; the input reads as it did. -/
def fnDiverseLeastUptoRow : OpenClaim := { program := "ytaaljmmnfgghfaa", sum := "c5bd81d8fe93815dff48c99ce648c2dd3f0e0d60bf482f7a4f27e4f0a8c9028f", func := "loop.example/disclosurecontrol/laws.FnDiverseLeast", spec := "fnDiverseLeast", plainKeys := false, apart := false, narrowed := true }
def FnDiverseLeastUptoSaid : Prop := fnDiverseLeastUptoRow.holds Try.pinned (OpenSpec.upto fnDiverseLeastSpec)

/-- 'laws.FnDiverseOrder', WHERE WHAT IT READS IS OF BULK AT MOST 1048576: true; the input reads as it did. -/
def fnDiverseOrderUptoRow : OpenClaim := { program := "ytaaljmmnfgghfaa", sum := "c5bd81d8fe93815dff48c99ce648c2dd3f0e0d60bf482f7a4f27e4f0a8c9028f", func := "loop.example/disclosurecontrol/laws.FnDiverseOrder", spec := "fnDiverseOrder", plainKeys := false, apart := false, narrowed := true }
def FnDiverseOrderUptoSaid : Prop := fnDiverseOrderUptoRow.holds Try.pinned (OpenSpec.upto fnDiverseOrderSpec)

/-- 'laws.FnDiverseLeastTop', WHERE WHAT IT READS IS OF BULK AT MOST 1048576: true; the input reads as it did. -/
def fnDiverseLeastTopUptoRow : OpenClaim := { program := "ytaaljmmnfgghfaa", sum := "c5bd81d8fe93815dff48c99ce648c2dd3f0e0d60bf482f7a4f27e4f0a8c9028f", func := "loop.example/disclosurecontrol/laws.FnDiverseLeastTop", spec := "fnDiverseLeastTop", plainKeys := false, apart := false, narrowed := true }
def FnDiverseLeastTopUptoSaid : Prop := fnDiverseLeastTopUptoRow.holds Try.pinned (OpenSpec.upto fnDiverseLeastTopSpec)

end Rows
end Go.Proofs.Ytaaljmmnfgghfaa
