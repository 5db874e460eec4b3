/-
  No cell of these rows narrows 'for every input' (looked for: loops, veiled, ifaces, maps, wideKeys, modest, calm, conditions, laid).
  DERIVED. THE GIVEN ROWS OF THIS SEAT. 11 by the template 'for every input the law returns true; each argument reads behind the call as it read before'; 0 by the template 'total and deterministic' (their statements: YtcfcimfhpbjjnaaTotals.lean).
  GIVEN WITH THE SEED: the statements are not yours to turn. If you find one false, say at which input.
  Laid BY PROGRAM, IN A SANDBOX (cutbox-rows.mjs): the forced cells as the released guide's own fill.sh prints them over the translation eb25dec9d28650f7… (all of the seat's roots in one cut). By AI agents, Wed Nov 11 2026. No macro, syntax, notation, axiom, sorry.
-/
import Derived.Test.YtcfcimfhpbjjnaaChecked
import GoSem.Claim
import GoSem.ClaimJoined
import GoSem.ClaimMapViews
import Derived.JoinedTies
import Derived.KernelRfl
namespace Go.Proofs.Ytcfcimfhpbjjnaa
/- THE CELL 'sum', in the pinned program and in every row, IS THE sha256 OF THE DUMP (.gsa) THAT YtcfcimfhpbjjnaaProg.lean LOADS. Nothing in Lean hashes anything: it is a label: what it is worth is what the hold of that sum in a sandbox is worth. -/
noncomputable def Try.pinned : Pinned := { name := "ytcfcimfhpbjjnaa", sum := "eb25dec9d28650f7a4977b92f8bf3b1d000e0bb98533f5b6ec25f0a4678e898b", checked := Try.checked }
namespace Rows
def none {H : Type} : Left H := { results := [], args := [] }

/-- 'laws.FnPerson': WHATEVER THE INPUT: true; the input reads as it did. -/
def fnPersonSpec : ChangeSpec := { name := "fnPerson", fn := fun _ => fun
  | [d] => { results := [.lit (.bool true)], args := [d] }
  | _ => none }
def fnPersonRow : OpenClaim := { program := "ytcfcimfhpbjjnaa", sum := "eb25dec9d28650f7a4977b92f8bf3b1d000e0bb98533f5b6ec25f0a4678e898b", func := "loop.example/disclosurecontrol/laws.FnPerson", spec := "fnPerson", apart := false }
def FnPersonSaid : Prop := fnPersonRow.holds Try.pinned (OpenSpec.ofChange fnPersonSpec)

/-- ITS FALSE NEIGHBOUR: 'it returns false'. Refute it at one input. -/
def fnPersonWrong : ChangeSpec := { name := "fnPerson", fn := fun _ => fun
  | [d] => { results := [.lit (.bool false)], args := [d] }
  | _ => none }
def FnPersonWrongFalsely : Prop := fnPersonRow.holds Try.pinned (OpenSpec.ofChange fnPersonWrong)

/-- 'laws.FnPeople': WHATEVER THE INPUT: true; the input reads as it did. -/
def fnPeopleSpec : ChangeSpec := { name := "fnPeople", fn := fun _ => fun
  | [d1, d2] => { results := [.lit (.bool true)], args := [d1, d2] }
  | _ => none }
def fnPeopleRow : OpenClaim := { program := "ytcfcimfhpbjjnaa", sum := "eb25dec9d28650f7a4977b92f8bf3b1d000e0bb98533f5b6ec25f0a4678e898b", func := "loop.example/disclosurecontrol/laws.FnPeople", spec := "fnPeople", apart := false }
def FnPeopleSaid : Prop := fnPeopleRow.holds Try.pinned (OpenSpec.ofChange fnPeopleSpec)

/-- ITS FALSE NEIGHBOUR: 'it returns false'. Refute it at one input. -/
def fnPeopleWrong : ChangeSpec := { name := "fnPeople", fn := fun _ => fun
  | [d1, d2] => { results := [.lit (.bool false)], args := [d1, d2] }
  | _ => none }
def FnPeopleWrongFalsely : Prop := fnPeopleRow.holds Try.pinned (OpenSpec.ofChange fnPeopleWrong)

/-- 'laws.FnPeopleWithout': WHATEVER THE INPUT: true; the input reads as it did. -/
def fnPeopleWithoutSpec : ChangeSpec := { name := "fnPeopleWithout", fn := fun _ => fun
  | [d] => { results := [.lit (.bool true)], args := [d] }
  | _ => none }
def fnPeopleWithoutRow : OpenClaim := { program := "ytcfcimfhpbjjnaa", sum := "eb25dec9d28650f7a4977b92f8bf3b1d000e0bb98533f5b6ec25f0a4678e898b", func := "loop.example/disclosurecontrol/laws.FnPeopleWithout", spec := "fnPeopleWithout", apart := false }
def FnPeopleWithoutSaid : Prop := fnPeopleWithoutRow.holds Try.pinned (OpenSpec.ofChange fnPeopleWithoutSpec)

/-- ITS FALSE NEIGHBOUR: 'it returns false'. Refute it at one input. -/
def fnPeopleWithoutWrong : ChangeSpec := { name := "fnPeopleWithout", fn := fun _ => fun
  | [d] => { results := [.lit (.bool false)], args := [d] }
  | _ => none }
def FnPeopleWithoutWrongFalsely : Prop := fnPeopleWithoutRow.holds Try.pinned (OpenSpec.ofChange fnPeopleWithoutWrong)

/-- 'laws.FnPeopleOwn': WHATEVER THE INPUT: true; the input reads as it did. -/
def fnPeopleOwnSpec : ChangeSpec := { name := "fnPeopleOwn", fn := fun _ => fun
  | [d] => { results := [.lit (.bool true)], args := [d] }
  | _ => none }
def fnPeopleOwnRow : OpenClaim := { program := "ytcfcimfhpbjjnaa", sum := "eb25dec9d28650f7a4977b92f8bf3b1d000e0bb98533f5b6ec25f0a4678e898b", func := "loop.example/disclosurecontrol/laws.FnPeopleOwn", spec := "fnPeopleOwn", apart := false }
def FnPeopleOwnSaid : Prop := fnPeopleOwnRow.holds Try.pinned (OpenSpec.ofChange fnPeopleOwnSpec)

/-- ITS FALSE NEIGHBOUR: 'it returns false'. Refute it at one input. -/
def fnPeopleOwnWrong : ChangeSpec := { name := "fnPeopleOwn", fn := fun _ => fun
  | [d] => { results := [.lit (.bool false)], args := [d] }
  | _ => none }
def FnPeopleOwnWrongFalsely : Prop := fnPeopleOwnRow.holds Try.pinned (OpenSpec.ofChange fnPeopleOwnWrong)

/-- 'laws.FnPeopleWithoutTwo': WHATEVER THE INPUT: true; the input reads as it did. -/
def fnPeopleWithoutTwoSpec : ChangeSpec := { name := "fnPeopleWithoutTwo", fn := fun _ => fun
  | [d] => { results := [.lit (.bool true)], args := [d] }
  | _ => none }
def fnPeopleWithoutTwoRow : OpenClaim := { program := "ytcfcimfhpbjjnaa", sum := "eb25dec9d28650f7a4977b92f8bf3b1d000e0bb98533f5b6ec25f0a4678e898b", func := "loop.example/disclosurecontrol/laws.FnPeopleWithoutTwo", spec := "fnPeopleWithoutTwo", apart := false }
def FnPeopleWithoutTwoSaid : Prop := fnPeopleWithoutTwoRow.holds Try.pinned (OpenSpec.ofChange fnPeopleWithoutTwoSpec)

/-- ITS FALSE NEIGHBOUR: 'it returns false'. Refute it at one input. -/
def fnPeopleWithoutTwoWrong : ChangeSpec := { name := "fnPeopleWithoutTwo", fn := fun _ => fun
  | [d] => { results := [.lit (.bool false)], args := [d] }
  | _ => none }
def FnPeopleWithoutTwoWrongFalsely : Prop := fnPeopleWithoutTwoRow.holds Try.pinned (OpenSpec.ofChange fnPeopleWithoutTwoWrong)

/-- 'laws.FnExactPersonValid': WHATEVER THE INPUT: true; the input reads as it did. -/
def fnExactPersonValidSpec : ChangeSpec := { name := "fnExactPersonValid", fn := fun _ => fun
  | [d] => { results := [.lit (.bool true)], args := [d] }
  | _ => none }
def fnExactPersonValidRow : OpenClaim := { program := "ytcfcimfhpbjjnaa", sum := "eb25dec9d28650f7a4977b92f8bf3b1d000e0bb98533f5b6ec25f0a4678e898b", func := "loop.example/disclosurecontrol/laws.FnExactPersonValid", spec := "fnExactPersonValid", apart := false }
def FnExactPersonValidSaid : Prop := fnExactPersonValidRow.holds Try.pinned (OpenSpec.ofChange fnExactPersonValidSpec)

/-- ITS FALSE NEIGHBOUR: 'it returns false'. Refute it at one input. -/
def fnExactPersonValidWrong : ChangeSpec := { name := "fnExactPersonValid", fn := fun _ => fun
  | [d] => { results := [.lit (.bool false)], args := [d] }
  | _ => none }
def FnExactPersonValidWrongFalsely : Prop := fnExactPersonValidRow.holds Try.pinned (OpenSpec.ofChange fnExactPersonValidWrong)

/-- 'laws.FnExactPeopleValid': WHATEVER THE INPUT: true; the input reads as it did. -/
def fnExactPeopleValidSpec : ChangeSpec := { name := "fnExactPeopleValid", fn := fun _ => fun
  | [d] => { results := [.lit (.bool true)], args := [d] }
  | _ => none }
def fnExactPeopleValidRow : OpenClaim := { program := "ytcfcimfhpbjjnaa", sum := "eb25dec9d28650f7a4977b92f8bf3b1d000e0bb98533f5b6ec25f0a4678e898b", func := "loop.example/disclosurecontrol/laws.FnExactPeopleValid", spec := "fnExactPeopleValid", apart := false }
def FnExactPeopleValidSaid : Prop := fnExactPeopleValidRow.holds Try.pinned (OpenSpec.ofChange fnExactPeopleValidSpec)

/-- ITS FALSE NEIGHBOUR: 'it returns false'. Refute it at one input. -/
def fnExactPeopleValidWrong : ChangeSpec := { name := "fnExactPeopleValid", fn := fun _ => fun
  | [d] => { results := [.lit (.bool false)], args := [d] }
  | _ => none }
def FnExactPeopleValidWrongFalsely : Prop := fnExactPeopleValidRow.holds Try.pinned (OpenSpec.ofChange fnExactPeopleValidWrong)

/-- 'laws.FnExactPeopleMany': WHATEVER THE INPUT: true; the input reads as it did. -/
def fnExactPeopleManySpec : ChangeSpec := { name := "fnExactPeopleMany", fn := fun _ => fun
  | [d1, d2, d3, d4] => { results := [.lit (.bool true)], args := [d1, d2, d3, d4] }
  | _ => none }
def fnExactPeopleManyRow : OpenClaim := { program := "ytcfcimfhpbjjnaa", sum := "eb25dec9d28650f7a4977b92f8bf3b1d000e0bb98533f5b6ec25f0a4678e898b", func := "loop.example/disclosurecontrol/laws.FnExactPeopleMany", spec := "fnExactPeopleMany", apart := false }
def FnExactPeopleManySaid : Prop := fnExactPeopleManyRow.holds Try.pinned (OpenSpec.ofChange fnExactPeopleManySpec)

/-- ITS FALSE NEIGHBOUR: 'it returns false'. Refute it at one input. -/
def fnExactPeopleManyWrong : ChangeSpec := { name := "fnExactPeopleMany", fn := fun _ => fun
  | [d1, d2, d3, d4] => { results := [.lit (.bool false)], args := [d1, d2, d3, d4] }
  | _ => none }
def FnExactPeopleManyWrongFalsely : Prop := fnExactPeopleManyRow.holds Try.pinned (OpenSpec.ofChange fnExactPeopleManyWrong)

/-- 'laws.FnExactPeoplePay': WHATEVER THE INPUT: true; the input reads as it did. -/
def fnExactPeoplePaySpec : ChangeSpec := { name := "fnExactPeoplePay", fn := fun _ => fun
  | [d1, d2, d3, d4] => { results := [.lit (.bool true)], args := [d1, d2, d3, d4] }
  | _ => none }
def fnExactPeoplePayRow : OpenClaim := { program := "ytcfcimfhpbjjnaa", sum := "eb25dec9d28650f7a4977b92f8bf3b1d000e0bb98533f5b6ec25f0a4678e898b", func := "loop.example/disclosurecontrol/laws.FnExactPeoplePay", spec := "fnExactPeoplePay", apart := false }
def FnExactPeoplePaySaid : Prop := fnExactPeoplePayRow.holds Try.pinned (OpenSpec.ofChange fnExactPeoplePaySpec)

/-- ITS FALSE NEIGHBOUR: 'it returns false'. Refute it at one input. -/
def fnExactPeoplePayWrong : ChangeSpec := { name := "fnExactPeoplePay", fn := fun _ => fun
  | [d1, d2, d3, d4] => { results := [.lit (.bool false)], args := [d1, d2, d3, d4] }
  | _ => none }
def FnExactPeoplePayWrongFalsely : Prop := fnExactPeoplePayRow.holds Try.pinned (OpenSpec.ofChange fnExactPeoplePayWrong)

/-- 'laws.FnExactPeopleWithout': WHATEVER THE INPUT: true; the input reads as it did. -/
def fnExactPeopleWithoutSpec : ChangeSpec := { name := "fnExactPeopleWithout", fn := fun _ => fun
  | [d1, d2] => { results := [.lit (.bool true)], args := [d1, d2] }
  | _ => none }
def fnExactPeopleWithoutRow : OpenClaim := { program := "ytcfcimfhpbjjnaa", sum := "eb25dec9d28650f7a4977b92f8bf3b1d000e0bb98533f5b6ec25f0a4678e898b", func := "loop.example/disclosurecontrol/laws.FnExactPeopleWithout", spec := "fnExactPeopleWithout", apart := false }
def FnExactPeopleWithoutSaid : Prop := fnExactPeopleWithoutRow.holds Try.pinned (OpenSpec.ofChange fnExactPeopleWithoutSpec)

/-- ITS FALSE NEIGHBOUR: 'it returns false'. Refute it at one input. -/
def fnExactPeopleWithoutWrong : ChangeSpec := { name := "fnExactPeopleWithout", fn := fun _ => fun
  | [d1, d2] => { results := [.lit (.bool false)], args := [d1, d2] }
  | _ => none }
def FnExactPeopleWithoutWrongFalsely : Prop := fnExactPeopleWithoutRow.holds Try.pinned (OpenSpec.ofChange fnExactPeopleWithoutWrong)

/-- 'laws.FnExactPeopleBand': WHATEVER THE INPUT: true; the input reads as it did. -/
def fnExactPeopleBandSpec : ChangeSpec := { name := "fnExactPeopleBand", fn := fun _ => fun
  | [d] => { results := [.lit (.bool true)], args := [d] }
  | _ => none }
def fnExactPeopleBandRow : OpenClaim := { program := "ytcfcimfhpbjjnaa", sum := "eb25dec9d28650f7a4977b92f8bf3b1d000e0bb98533f5b6ec25f0a4678e898b", func := "loop.example/disclosurecontrol/laws.FnExactPeopleBand", spec := "fnExactPeopleBand", apart := false }
def FnExactPeopleBandSaid : Prop := fnExactPeopleBandRow.holds Try.pinned (OpenSpec.ofChange fnExactPeopleBandSpec)

/-- ITS FALSE NEIGHBOUR: 'it returns false'. Refute it at one input. -/
def fnExactPeopleBandWrong : ChangeSpec := { name := "fnExactPeopleBand", fn := fun _ => fun
  | [d] => { results := [.lit (.bool false)], args := [d] }
  | _ => none }
def FnExactPeopleBandWrongFalsely : Prop := fnExactPeopleBandRow.holds Try.pinned (OpenSpec.ofChange fnExactPeopleBandWrong)

/- THE SECOND FORM. 'bulk': how many values and letters a reading holds, each counted each time it is reached (what is shared counts as often as it is met; a slice's spare places count too). A statement '..UptoSaid' is the law's where the arguments, and the package variables that the reading takes, are together of bulk at most 1048576: NARROWER than '..Said'. Prove '..Said' where nothing that the law and all that it calls make is longer than what came in: it says more and counts as full. Else prove '..UptoSaid'. A law counts once. -/
mutual
def uptoBulk {H : Type} : DataW H → Nat
  | .lit (.string bytes) => bytes.length + 1
  | .lit _ => 1
  | .nil => 1
  | .ptr d => uptoBulk d + 1
  | .slice elems spare => uptoBulkAll elems + uptoBulkAll spare + 1
  | .agg parts => uptoBulkAll parts + 1
  | .iface _ d => uptoBulk d + 1
  | .map entries => uptoBulkEntries entries + 1
  | .held _ => 1
def uptoBulkAll {H : Type} : List (DataW H) → Nat
  | [] => 0
  | d :: r => uptoBulk d + uptoBulkAll r
def uptoBulkEntries {H : Type} : List (Lit × DataW H) → Nat
  | [] => 0
  | x :: r => uptoBulkEntry x + uptoBulkEntries r
def uptoBulkEntry {H : Type} : Lit × DataW H → Nat
  | (.string bytes, d) => bytes.length + uptoBulk d + 1
  | (_, d) => uptoBulk d + 1
 end
def uptoSmall : (H : Type) → List (DataW H) → Bool := fun _ ds => decide (uptoBulkAll ds ≤ 1048576)
def OpenSpec.upto (s : _root_.Go.ChangeSpec) : _root_.Go.OpenSpec := { _root_.Go.OpenSpec.ofChange s with cond := some uptoSmall }

/-- 'laws.FnPerson', WHERE WHAT IT READS IS OF BULK AT MOST 1048576: true; the input reads as it did. -/
def fnPersonUptoRow : OpenClaim := { program := "ytcfcimfhpbjjnaa", sum := "eb25dec9d28650f7a4977b92f8bf3b1d000e0bb98533f5b6ec25f0a4678e898b", func := "loop.example/disclosurecontrol/laws.FnPerson", spec := "fnPerson", apart := false, narrowed := true }
def FnPersonUptoSaid : Prop := fnPersonUptoRow.holds Try.pinned (OpenSpec.upto fnPersonSpec)

/-- 'laws.FnPeople', WHERE WHAT IT READS IS OF BULK AT MOST 1048576: true; the input reads as it did. -/
def fnPeopleUptoRow : OpenClaim := { program := "ytcfcimfhpbjjnaa", sum := "eb25dec9d28650f7a4977b92f8bf3b1d000e0bb98533f5b6ec25f0a4678e898b", func := "loop.example/disclosurecontrol/laws.FnPeople", spec := "fnPeople", apart := false, narrowed := true }
def FnPeopleUptoSaid : Prop := fnPeopleUptoRow.holds Try.pinned (OpenSpec.upto fnPeopleSpec)

/-- 'laws.FnPeopleWithout', WHERE WHAT IT READS IS OF BULK AT MOST 1048576: true; the input reads as it did. -/
def fnPeopleWithoutUptoRow : OpenClaim := { program := "ytcfcimfhpbjjnaa", sum := "eb25dec9d28650f7a4977b92f8bf3b1d000e0bb98533f5b6ec25f0a4678e898b", func := "loop.example/disclosurecontrol/laws.FnPeopleWithout", spec := "fnPeopleWithout", apart := false, narrowed := true }
def FnPeopleWithoutUptoSaid : Prop := fnPeopleWithoutUptoRow.holds Try.pinned (OpenSpec.upto fnPeopleWithoutSpec)

/-- 'laws.FnPeopleOwn', WHERE WHAT IT READS IS OF BULK AT MOST 1048576: true; the input reads as it did. -/
def fnPeopleOwnUptoRow : OpenClaim := { program := "ytcfcimfhpbjjnaa", sum := "eb25dec9d28650f7a4977b92f8bf3b1d000e0bb98533f5b6ec25f0a4678e898b", func := "loop.example/disclosurecontrol/laws.FnPeopleOwn", spec := "fnPeopleOwn", apart := false, narrowed := true }
def FnPeopleOwnUptoSaid : Prop := fnPeopleOwnUptoRow.holds Try.pinned (OpenSpec.upto fnPeopleOwnSpec)

/-- 'laws.FnPeopleWithoutTwo', WHERE WHAT IT READS IS OF BULK AT MOST 1048576: true; the input reads as it did. -/
def fnPeopleWithoutTwoUptoRow : OpenClaim := { program := "ytcfcimfhpbjjnaa", sum := "eb25dec9d28650f7a4977b92f8bf3b1d000e0bb98533f5b6ec25f0a4678e898b", func := "loop.example/disclosurecontrol/laws.FnPeopleWithoutTwo", spec := "fnPeopleWithoutTwo", apart := false, narrowed := true }
def FnPeopleWithoutTwoUptoSaid : Prop := fnPeopleWithoutTwoUptoRow.holds Try.pinned (OpenSpec.upto fnPeopleWithoutTwoSpec)

/-- 'laws.FnExactPersonValid', WHERE WHAT IT READS IS OF BULK AT MOST 1048576: true; the input reads as it did. -/
def fnExactPersonValidUptoRow : OpenClaim := { program := "ytcfcimfhpbjjnaa", sum := "eb25dec9d28650f7a4977b92f8bf3b1d000e0bb98533f5b6ec25f0a4678e898b", func := "loop.example/disclosurecontrol/laws.FnExactPersonValid", spec := "fnExactPersonValid", apart := false, narrowed := true }
def FnExactPersonValidUptoSaid : Prop := fnExactPersonValidUptoRow.holds Try.pinned (OpenSpec.upto fnExactPersonValidSpec)

/-- 'laws.FnExactPeopleValid', WHERE WHAT IT READS IS OF BULK AT MOST 1048576: true; the input reads as it did. -/
def fnExactPeopleValidUptoRow : OpenClaim := { program := "ytcfcimfhpbjjnaa", sum := "eb25dec9d28650f7a4977b92f8bf3b1d000e0bb98533f5b6ec25f0a4678e898b", func := "loop.example/disclosurecontrol/laws.FnExactPeopleValid", spec := "fnExactPeopleValid", apart := false, narrowed := true }
def FnExactPeopleValidUptoSaid : Prop := fnExactPeopleValidUptoRow.holds Try.pinned (OpenSpec.upto fnExactPeopleValidSpec)

/-- 'laws.FnExactPeopleMany', WHERE WHAT IT READS IS OF BULK AT MOST 1048576: true; the input reads as it did. -/
def fnExactPeopleManyUptoRow : OpenClaim := { program := "ytcfcimfhpbjjnaa", sum := "eb25dec9d28650f7a4977b92f8bf3b1d000e0bb98533f5b6ec25f0a4678e898b", func := "loop.example/disclosurecontrol/laws.FnExactPeopleMany", spec := "fnExactPeopleMany", apart := false, narrowed := true }
def FnExactPeopleManyUptoSaid : Prop := fnExactPeopleManyUptoRow.holds Try.pinned (OpenSpec.upto fnExactPeopleManySpec)

/-- 'laws.FnExactPeoplePay', WHERE WHAT IT READS IS OF BULK AT MOST 1048576: true; the input reads as it did. -/
def fnExactPeoplePayUptoRow : OpenClaim := { program := "ytcfcimfhpbjjnaa", sum := "eb25dec9d28650f7a4977b92f8bf3b1d000e0bb98533f5b6ec25f0a4678e898b", func := "loop.example/disclosurecontrol/laws.FnExactPeoplePay", spec := "fnExactPeoplePay", apart := false, narrowed := true }
def FnExactPeoplePayUptoSaid : Prop := fnExactPeoplePayUptoRow.holds Try.pinned (OpenSpec.upto fnExactPeoplePaySpec)

/-- 'laws.FnExactPeopleWithout', WHERE WHAT IT READS IS OF BULK AT MOST 1048576: true; the input reads as it did. -/
def fnExactPeopleWithoutUptoRow : OpenClaim := { program := "ytcfcimfhpbjjnaa", sum := "eb25dec9d28650f7a4977b92f8bf3b1d000e0bb98533f5b6ec25f0a4678e898b", func := "loop.example/disclosurecontrol/laws.FnExactPeopleWithout", spec := "fnExactPeopleWithout", apart := false, narrowed := true }
def FnExactPeopleWithoutUptoSaid : Prop := fnExactPeopleWithoutUptoRow.holds Try.pinned (OpenSpec.upto fnExactPeopleWithoutSpec)

/-- 'laws.FnExactPeopleBand', WHERE WHAT IT READS IS OF BULK AT MOST 1048576: true; the input reads as it did. -/
def fnExactPeopleBandUptoRow : OpenClaim := { program := "ytcfcimfhpbjjnaa", sum := "eb25dec9d28650f7a4977b92f8bf3b1d000e0bb98533f5b6ec25f0a4678e898b", func := "loop.example/disclosurecontrol/laws.FnExactPeopleBand", spec := "fnExactPeopleBand", apart := false, narrowed := true }
def FnExactPeopleBandUptoSaid : Prop := fnExactPeopleBandUptoRow.holds Try.pinned (OpenSpec.upto fnExactPeopleBandSpec)

end Rows
end Go.Proofs.Ytcfcimfhpbjjnaa
