/-
  No cell of these rows narrows 'for every input' (looked for: loops, veiled, ifaces, maps, wideKeys, modest, calm, conditions, laid).
  DERIVED. THE GIVEN ROWS OF THIS SEAT. 8 by the template 'for every input the law returns true; each argument reads behind the call as it read before'; 0 by the template 'total and deterministic' (their statements: YtghhhdcbpcdhfaaTotals.lean).
  GIVEN WITH THE SEED: the statements are not yours to turn. If you find one false, say at which input.
  Laid BY PROGRAM, IN A SANDBOX (cutbox-rows.mjs): the forced cells as the released guide's own fill.sh prints them over the translation 1131d0ee64dd8755… (all of the seat's roots in one cut). By AI agents, Wed Nov 11 2026. No macro, syntax, notation, axiom, sorry.
-/
import Derived.Test.YtghhhdcbpcdhfaaChecked
import GoSem.Claim
import GoSem.ClaimJoined
import GoSem.ClaimMapViews
import Derived.JoinedTies
import Derived.KernelRfl
namespace Go.Proofs.Ytghhhdcbpcdhfaa
/- THE CELL 'sum', in the pinned program and in every row, IS THE sha256 OF THE DUMP (.gsa) THAT YtghhhdcbpcdhfaaProg.lean LOADS. Nothing in Lean hashes anything: it is a label: what it is worth is what the hold of that sum in a sandbox is worth. -/
noncomputable def Try.pinned : Pinned := { name := "ytghhhdcbpcdhfaa", sum := "1131d0ee64dd8755f5c687d905e1c73eaced9dfff280a5d18b2c553c74b37c5a", checked := Try.checked }
namespace Rows
def none {H : Type} : Left H := { results := [], args := [] }

/-- 'laws.FnBest': WHATEVER THE INPUT: true; the input reads as it did. -/
def fnBestSpec : ChangeSpec := { name := "fnBest", fn := fun _ => fun
  | [d] => { results := [.lit (.bool true)], args := [d] }
  | _ => none }
def fnBestRow : OpenClaim := { program := "ytghhhdcbpcdhfaa", sum := "1131d0ee64dd8755f5c687d905e1c73eaced9dfff280a5d18b2c553c74b37c5a", func := "loop.example/disclosurecontrol/laws.FnBest", spec := "fnBest", unfollowed := true, recurses := true, plainKeys := false, apart := false }
def FnBestSaid : Prop := fnBestRow.holds Try.pinned (OpenSpec.ofChange fnBestSpec)

/-- ITS FALSE NEIGHBOUR: 'it returns false'. Refute it at one input. -/
def fnBestWrong : ChangeSpec := { name := "fnBest", fn := fun _ => fun
  | [d] => { results := [.lit (.bool false)], args := [d] }
  | _ => none }
def FnBestWrongFalsely : Prop := fnBestRow.holds Try.pinned (OpenSpec.ofChange fnBestWrong)

/-- 'laws.FnBestMore': WHATEVER THE INPUT: true; the input reads as it did. -/
def fnBestMoreSpec : ChangeSpec := { name := "fnBestMore", fn := fun _ => fun
  | [d] => { results := [.lit (.bool true)], args := [d] }
  | _ => none }
def fnBestMoreRow : OpenClaim := { program := "ytghhhdcbpcdhfaa", sum := "1131d0ee64dd8755f5c687d905e1c73eaced9dfff280a5d18b2c553c74b37c5a", func := "loop.example/disclosurecontrol/laws.FnBestMore", spec := "fnBestMore", unfollowed := true, recurses := true, plainKeys := false, apart := false }
def FnBestMoreSaid : Prop := fnBestMoreRow.holds Try.pinned (OpenSpec.ofChange fnBestMoreSpec)

/-- ITS FALSE NEIGHBOUR: 'it returns false'. Refute it at one input. -/
def fnBestMoreWrong : ChangeSpec := { name := "fnBestMore", fn := fun _ => fun
  | [d] => { results := [.lit (.bool false)], args := [d] }
  | _ => none }
def FnBestMoreWrongFalsely : Prop := fnBestMoreRow.holds Try.pinned (OpenSpec.ofChange fnBestMoreWrong)

/-- 'laws.FnBestTop': WHATEVER THE INPUT: true; the input reads as it did. -/
def fnBestTopSpec : ChangeSpec := { name := "fnBestTop", fn := fun _ => fun
  | [d] => { results := [.lit (.bool true)], args := [d] }
  | _ => none }
def fnBestTopRow : OpenClaim := { program := "ytghhhdcbpcdhfaa", sum := "1131d0ee64dd8755f5c687d905e1c73eaced9dfff280a5d18b2c553c74b37c5a", func := "loop.example/disclosurecontrol/laws.FnBestTop", spec := "fnBestTop", unfollowed := true, recurses := true, plainKeys := false, apart := false }
def FnBestTopSaid : Prop := fnBestTopRow.holds Try.pinned (OpenSpec.ofChange fnBestTopSpec)

/-- ITS FALSE NEIGHBOUR: 'it returns false'. Refute it at one input. -/
def fnBestTopWrong : ChangeSpec := { name := "fnBestTop", fn := fun _ => fun
  | [d] => { results := [.lit (.bool false)], args := [d] }
  | _ => none }
def FnBestTopWrongFalsely : Prop := fnBestTopRow.holds Try.pinned (OpenSpec.ofChange fnBestTopWrong)

/-- 'laws.FnBestNone': WHATEVER THE INPUT: true; the input reads as it did. -/
def fnBestNoneSpec : ChangeSpec := { name := "fnBestNone", fn := fun _ => fun
  | [d] => { results := [.lit (.bool true)], args := [d] }
  | _ => none }
def fnBestNoneRow : OpenClaim := { program := "ytghhhdcbpcdhfaa", sum := "1131d0ee64dd8755f5c687d905e1c73eaced9dfff280a5d18b2c553c74b37c5a", func := "loop.example/disclosurecontrol/laws.FnBestNone", spec := "fnBestNone", unfollowed := true, recurses := true, plainKeys := false, apart := false }
def FnBestNoneSaid : Prop := fnBestNoneRow.holds Try.pinned (OpenSpec.ofChange fnBestNoneSpec)

/-- ITS FALSE NEIGHBOUR: 'it returns false'. Refute it at one input. -/
def fnBestNoneWrong : ChangeSpec := { name := "fnBestNone", fn := fun _ => fun
  | [d] => { results := [.lit (.bool false)], args := [d] }
  | _ => none }
def FnBestNoneWrongFalsely : Prop := fnBestNoneRow.holds Try.pinned (OpenSpec.ofChange fnBestNoneWrong)

/-- 'laws.FnBestAgain': WHATEVER THE INPUT: true; the input reads as it did. -/
def fnBestAgainSpec : ChangeSpec := { name := "fnBestAgain", fn := fun _ => fun
  | [d] => { results := [.lit (.bool true)], args := [d] }
  | _ => none }
def fnBestAgainRow : OpenClaim := { program := "ytghhhdcbpcdhfaa", sum := "1131d0ee64dd8755f5c687d905e1c73eaced9dfff280a5d18b2c553c74b37c5a", func := "loop.example/disclosurecontrol/laws.FnBestAgain", spec := "fnBestAgain", unfollowed := true, recurses := true, plainKeys := false, apart := false }
def FnBestAgainSaid : Prop := fnBestAgainRow.holds Try.pinned (OpenSpec.ofChange fnBestAgainSpec)

/-- ITS FALSE NEIGHBOUR: 'it returns false'. Refute it at one input. -/
def fnBestAgainWrong : ChangeSpec := { name := "fnBestAgain", fn := fun _ => fun
  | [d] => { results := [.lit (.bool false)], args := [d] }
  | _ => none }
def FnBestAgainWrongFalsely : Prop := fnBestAgainRow.holds Try.pinned (OpenSpec.ofChange fnBestAgainWrong)

/-- 'laws.FnBestOk': WHATEVER THE INPUT: true; the input reads as it did. -/
def fnBestOkSpec : ChangeSpec := { name := "fnBestOk", fn := fun _ => fun
  | [d] => { results := [.lit (.bool true)], args := [d] }
  | _ => none }
def fnBestOkRow : OpenClaim := { program := "ytghhhdcbpcdhfaa", sum := "1131d0ee64dd8755f5c687d905e1c73eaced9dfff280a5d18b2c553c74b37c5a", func := "loop.example/disclosurecontrol/laws.FnBestOk", spec := "fnBestOk", unfollowed := true, recurses := true, plainKeys := false, apart := false }
def FnBestOkSaid : Prop := fnBestOkRow.holds Try.pinned (OpenSpec.ofChange fnBestOkSpec)

/-- ITS FALSE NEIGHBOUR: 'it returns false'. Refute it at one input. -/
def fnBestOkWrong : ChangeSpec := { name := "fnBestOk", fn := fun _ => fun
  | [d] => { results := [.lit (.bool false)], args := [d] }
  | _ => none }
def FnBestOkWrongFalsely : Prop := fnBestOkRow.holds Try.pinned (OpenSpec.ofChange fnBestOkWrong)

/-- 'laws.FnCost': WHATEVER THE INPUT: true; the input reads as it did. -/
def fnCostSpec : ChangeSpec := { name := "fnCost", fn := fun _ => fun
  | [d] => { results := [.lit (.bool true)], args := [d] }
  | _ => none }
def fnCostRow : OpenClaim := { program := "ytghhhdcbpcdhfaa", sum := "1131d0ee64dd8755f5c687d905e1c73eaced9dfff280a5d18b2c553c74b37c5a", func := "loop.example/disclosurecontrol/laws.FnCost", spec := "fnCost", plainKeys := false, apart := false }
def FnCostSaid : Prop := fnCostRow.holds Try.pinned (OpenSpec.ofChange fnCostSpec)

/-- ITS FALSE NEIGHBOUR: 'it returns false'. Refute it at one input. -/
def fnCostWrong : ChangeSpec := { name := "fnCost", fn := fun _ => fun
  | [d] => { results := [.lit (.bool false)], args := [d] }
  | _ => none }
def FnCostWrongFalsely : Prop := fnCostRow.holds Try.pinned (OpenSpec.ofChange fnCostWrong)

/-- 'laws.FnAnonOkCoarser': WHATEVER THE INPUT: true; the input reads as it did. -/
def fnAnonOkCoarserSpec : ChangeSpec := { name := "fnAnonOkCoarser", fn := fun _ => fun
  | [d] => { results := [.lit (.bool true)], args := [d] }
  | _ => none }
def fnAnonOkCoarserRow : OpenClaim := { program := "ytghhhdcbpcdhfaa", sum := "1131d0ee64dd8755f5c687d905e1c73eaced9dfff280a5d18b2c553c74b37c5a", func := "loop.example/disclosurecontrol/laws.FnAnonOkCoarser", spec := "fnAnonOkCoarser", plainKeys := false, apart := false }
def FnAnonOkCoarserSaid : Prop := fnAnonOkCoarserRow.holds Try.pinned (OpenSpec.ofChange fnAnonOkCoarserSpec)

/-- ITS FALSE NEIGHBOUR: 'it returns false'. Refute it at one input. -/
def fnAnonOkCoarserWrong : ChangeSpec := { name := "fnAnonOkCoarser", fn := fun _ => fun
  | [d] => { results := [.lit (.bool false)], args := [d] }
  | _ => none }
def FnAnonOkCoarserWrongFalsely : Prop := fnAnonOkCoarserRow.holds Try.pinned (OpenSpec.ofChange fnAnonOkCoarserWrong)

/- THE SECOND FORM. 'bulk': how many values and letters a reading holds, each counted each time it is reached (what is shared counts as often as it is met; a slice's spare places count too). A statement '..UptoSaid' is the law's where the arguments, and the package variables that the reading takes, are together of bulk at most 1048576: NARROWER than '..Said'. Prove '..Said' where nothing that the law and all that it calls make is longer than what came in: it says more and counts as full. Else prove '..UptoSaid'. A law counts once. -/
mutual
def uptoBulk {H : Type} : DataW H → Nat
  | .lit (.string bytes) => bytes.length + 1
  | .lit _ => 1
  | .nil => 1
  | .ptr d => uptoBulk d + 1
  | .slice elems spare => uptoBulkAll elems + uptoBulkAll spare + 1
  | .agg parts => uptoBulkAll parts + 1
  | .iface _ d => uptoBulk d + 1
  | .map entries => uptoBulkEntries entries + 1
  | .held _ => 1
def uptoBulkAll {H : Type} : List (DataW H) → Nat
  | [] => 0
  | d :: r => uptoBulk d + uptoBulkAll r
def uptoBulkEntries {H : Type} : List (Lit × DataW H) → Nat
  | [] => 0
  | x :: r => uptoBulkEntry x + uptoBulkEntries r
def uptoBulkEntry {H : Type} : Lit × DataW H → Nat
  | (.string bytes, d) => bytes.length + uptoBulk d + 1
  | (_, d) => uptoBulk d + 1
 end
def uptoSmall : (H : Type) → List (DataW H) → Bool := fun _ ds => decide (uptoBulkAll ds ≤ 1048576)
def OpenSpec.upto (s : _root_.Go.ChangeSpec) : _root_.Go.OpenSpec := { _root_.Go.OpenSpec.ofChange s with cond := some uptoSmall }

/-- 'laws.FnBest', WHERE WHAT IT READS IS OF BULK AT MOST 1048576: true; the input reads as it did. -/
def fnBestUptoRow : OpenClaim := { program := "ytghhhdcbpcdhfaa", sum := "1131d0ee64dd8755f5c687d905e1c73eaced9dfff280a5d18b2c553c74b37c5a", func := "loop.example/disclosurecontrol/laws.FnBest", spec := "fnBest", unfollowed := true, recurses := true, plainKeys := false, apart := false, narrowed := true }
def FnBestUptoSaid : Prop := fnBestUptoRow.holds Try.pinned (OpenSpec.upto fnBestSpec)

/-- 'laws.FnBestMore', WHERE WHAT IT READS IS OF BULK AT MOST 1048576: true; the input reads as it did. -/
def fnBestMoreUptoRow : OpenClaim := { program := "ytghhhdcbpcdhfaa", sum := "1131d0ee64dd8755f5c687d905e1c73eaced9dfff280a5d18b2c553c74b37c5a", func := "loop.example/disclosurecontrol/laws.FnBestMore", spec := "fnBestMore", unfollowed := true, recurses := true, plainKeys := false, apart := false, narrowed := true }
def FnBestMoreUptoSaid : Prop := fnBestMoreUptoRow.holds Try.pinned (OpenSpec.upto fnBestMoreSpec)

/-- 'laws.FnBestTop', WHERE WHAT IT READS IS OF BULK AT MOST 1048576: true; the input reads as it did. -/
def fnBestTopUptoRow : OpenClaim := { program := "ytghhhdcbpcdhfaa", sum := "1131d0ee64dd8755f5c687d905e1c73eaced9dfff280a5d18b2c553c74b37c5a", func := "loop.example/disclosurecontrol/laws.FnBestTop", spec := "fnBestTop", unfollowed := true, recurses := true, plainKeys := false, apart := false, narrowed := true }
def FnBestTopUptoSaid : Prop := fnBestTopUptoRow.holds Try.pinned (OpenSpec.upto fnBestTopSpec)

/-- 'laws.FnBestNone', WHERE WHAT IT READS IS OF BULK AT MOST 1048576: true; the input reads as it did. -/
def fnBestNoneUptoRow : OpenClaim := { program := "ytghhhdcbpcdhfaa", sum := "1131d0ee64dd8755f5c687d905e1c73eaced9dfff280a5d18b2c553c74b37c5a", func := "loop.example/disclosurecontrol/laws.FnBestNone", spec := "fnBestNone", unfollowed := true, recurses := true, plainKeys := false, apart := false, narrowed := true }
def FnBestNoneUptoSaid : Prop := fnBestNoneUptoRow.holds Try.pinned (OpenSpec.upto fnBestNoneSpec)

/-- 'laws.FnBestAgain', WHERE WHAT IT READS IS OF BULK AT MOST 1048576: true; the input reads as it did. -/
def fnBestAgainUptoRow : OpenClaim := { program := "ytghhhdcbpcdhfaa", sum := "1131d0ee64dd8755f5c687d905e1c73eaced9dfff280a5d18b2c553c74b37c5a", func := "loop.example/disclosurecontrol/laws.FnBestAgain", spec := "fnBestAgain", unfollowed := true, recurses := true, plainKeys := false, apart := false, narrowed := true }
def FnBestAgainUptoSaid : Prop := fnBestAgainUptoRow.holds Try.pinned (OpenSpec.upto fnBestAgainSpec)

/-- 'laws.FnBestOk', WHERE WHAT IT READS IS OF BULK AT MOST 1048576: true; the input reads as it did. -/
def fnBestOkUptoRow : OpenClaim := { program := "ytghhhdcbpcdhfaa", sum := "1131d0ee64dd8755f5c687d905e1c73eaced9dfff280a5d18b2c553c74b37c5a", func := "loop.example/disclosurecontrol/laws.FnBestOk", spec := "fnBestOk", unfollowed := true, recurses := true, plainKeys := false, apart := false, narrowed := true }
def FnBestOkUptoSaid : Prop := fnBestOkUptoRow.holds Try.pinned (OpenSpec.upto fnBestOkSpec)

/-- 'laws.FnCost', WHERE WHAT IT READS IS OF BULK AT MOST 1048576: true; the input reads as it did. -/
def fnCostUptoRow : OpenClaim := { program := "ytghhhdcbpcdhfaa", sum := "1131d0ee64dd8755f5c687d905e1c73eaced9dfff280a5d18b2c553c74b37c5a", func := "loop.example/disclosurecontrol/laws.FnCost", spec := "fnCost", plainKeys := false, apart := false, narrowed := true }
def FnCostUptoSaid : Prop := fnCostUptoRow.holds Try.pinned (OpenSpec.upto fnCostSpec)

/-- 'laws.FnAnonOkCoarser', WHERE WHAT IT READS IS OF BULK AT MOST 1048576: true; the input reads as it did. -/
def fnAnonOkCoarserUptoRow : OpenClaim := { program := "ytghhhdcbpcdhfaa", sum := "1131d0ee64dd8755f5c687d905e1c73eaced9dfff280a5d18b2c553c74b37c5a", func := "loop.example/disclosurecontrol/laws.FnAnonOkCoarser", spec := "fnAnonOkCoarser", plainKeys := false, apart := false, narrowed := true }
def FnAnonOkCoarserUptoSaid : Prop := fnAnonOkCoarserUptoRow.holds Try.pinned (OpenSpec.upto fnAnonOkCoarserSpec)

end Rows
end Go.Proofs.Ytghhhdcbpcdhfaa
