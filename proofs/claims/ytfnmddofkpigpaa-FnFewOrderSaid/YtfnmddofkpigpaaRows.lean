/-
  No cell of these rows narrows 'for every input' (looked for: loops, veiled, ifaces, maps, wideKeys, modest, calm, conditions, laid).
  DERIVED. THE GIVEN ROWS OF THIS SEAT. 10 by the template 'for every input the law returns true; each argument reads behind the call as it read before'; 0 by the template 'total and deterministic' (their statements: YtfnmddofkpigpaaTotals.lean).
  GIVEN WITH THE SEED: the statements are not yours to turn. If you find one false, say at which input.
  Laid BY PROGRAM, IN A SANDBOX (cutbox-rows.mjs): the forced cells as the released guide's own fill.sh prints them over the translation 3024d293d02ede38… (all of the seat's roots in one cut). By AI agents, Wed Nov 11 2026. No macro, syntax, notation, axiom, sorry.
-/
import Derived.Test.YtfnmddofkpigpaaChecked
import GoSem.Claim
import GoSem.ClaimJoined
import GoSem.ClaimMapViews
import Derived.JoinedTies
import Derived.KernelRfl
namespace Go.Proofs.Ytfnmddofkpigpaa
/- THE CELL 'sum', in the pinned program and in every row, IS THE sha256 OF THE DUMP (.gsa) THAT YtfnmddofkpigpaaProg.lean LOADS. Nothing in Lean hashes anything: it is a label: what it is worth is what the hold of that sum in a sandbox is worth. -/
noncomputable def Try.pinned : Pinned := { name := "ytfnmddofkpigpaa", sum := "3024d293d02ede3826b95e584729ea44fd6e292ec981f25719194f2ae3d92e6a", checked := Try.checked }
namespace Rows
def none {H : Type} : Left H := { results := [], args := [] }

/-- 'laws.FnParts': WHATEVER THE INPUT: true; the input reads as it did. -/
def fnPartsSpec : ChangeSpec := { name := "fnParts", fn := fun _ => fun
  | [d1, d2] => { results := [.lit (.bool true)], args := [d1, d2] }
  | _ => none }
def fnPartsRow : OpenClaim := { program := "ytfnmddofkpigpaa", sum := "3024d293d02ede3826b95e584729ea44fd6e292ec981f25719194f2ae3d92e6a", func := "loop.example/disclosurecontrol/laws.FnParts", spec := "fnParts", apart := false }
def FnPartsSaid : Prop := fnPartsRow.holds Try.pinned (OpenSpec.ofChange fnPartsSpec)

/-- ITS FALSE NEIGHBOUR: 'it returns false'. Refute it at one input. -/
def fnPartsWrong : ChangeSpec := { name := "fnParts", fn := fun _ => fun
  | [d1, d2] => { results := [.lit (.bool false)], args := [d1, d2] }
  | _ => none }
def FnPartsWrongFalsely : Prop := fnPartsRow.holds Try.pinned (OpenSpec.ofChange fnPartsWrong)

/-- 'laws.FnTop': WHATEVER THE INPUT: true; the input reads as it did. -/
def fnTopSpec : ChangeSpec := { name := "fnTop", fn := fun _ => fun
  | [d] => { results := [.lit (.bool true)], args := [d] }
  | _ => none }
def fnTopRow : OpenClaim := { program := "ytfnmddofkpigpaa", sum := "3024d293d02ede3826b95e584729ea44fd6e292ec981f25719194f2ae3d92e6a", func := "loop.example/disclosurecontrol/laws.FnTop", spec := "fnTop", unfollowed := true, recurses := true, apart := false }
def FnTopSaid : Prop := fnTopRow.holds Try.pinned (OpenSpec.ofChange fnTopSpec)

/-- ITS FALSE NEIGHBOUR: 'it returns false'. Refute it at one input. -/
def fnTopWrong : ChangeSpec := { name := "fnTop", fn := fun _ => fun
  | [d] => { results := [.lit (.bool false)], args := [d] }
  | _ => none }
def FnTopWrongFalsely : Prop := fnTopRow.holds Try.pinned (OpenSpec.ofChange fnTopWrong)

/-- 'laws.FnTopOrder': WHATEVER THE INPUT: true; the input reads as it did. -/
def fnTopOrderSpec : ChangeSpec := { name := "fnTopOrder", fn := fun _ => fun
  | [d1, d2] => { results := [.lit (.bool true)], args := [d1, d2] }
  | _ => none }
def fnTopOrderRow : OpenClaim := { program := "ytfnmddofkpigpaa", sum := "3024d293d02ede3826b95e584729ea44fd6e292ec981f25719194f2ae3d92e6a", func := "loop.example/disclosurecontrol/laws.FnTopOrder", spec := "fnTopOrder", unfollowed := true, recurses := true, apart := false }
def FnTopOrderSaid : Prop := fnTopOrderRow.holds Try.pinned (OpenSpec.ofChange fnTopOrderSpec)

/-- ITS FALSE NEIGHBOUR: 'it returns false'. Refute it at one input. -/
def fnTopOrderWrong : ChangeSpec := { name := "fnTopOrder", fn := fun _ => fun
  | [d1, d2] => { results := [.lit (.bool false)], args := [d1, d2] }
  | _ => none }
def FnTopOrderWrongFalsely : Prop := fnTopOrderRow.holds Try.pinned (OpenSpec.ofChange fnTopOrderWrong)

/-- 'laws.FnFew': WHATEVER THE INPUT: true; the input reads as it did. -/
def fnFewSpec : ChangeSpec := { name := "fnFew", fn := fun _ => fun
  | [d] => { results := [.lit (.bool true)], args := [d] }
  | _ => none }
def fnFewRow : OpenClaim := { program := "ytfnmddofkpigpaa", sum := "3024d293d02ede3826b95e584729ea44fd6e292ec981f25719194f2ae3d92e6a", func := "loop.example/disclosurecontrol/laws.FnFew", spec := "fnFew", unfollowed := true, recurses := true, apart := false }
def FnFewSaid : Prop := fnFewRow.holds Try.pinned (OpenSpec.ofChange fnFewSpec)

/-- ITS FALSE NEIGHBOUR: 'it returns false'. Refute it at one input. -/
def fnFewWrong : ChangeSpec := { name := "fnFew", fn := fun _ => fun
  | [d] => { results := [.lit (.bool false)], args := [d] }
  | _ => none }
def FnFewWrongFalsely : Prop := fnFewRow.holds Try.pinned (OpenSpec.ofChange fnFewWrong)

/-- 'laws.FnTopSorted': WHATEVER THE INPUT: true; the input reads as it did. -/
def fnTopSortedSpec : ChangeSpec := { name := "fnTopSorted", fn := fun _ => fun
  | [d] => { results := [.lit (.bool true)], args := [d] }
  | _ => none }
def fnTopSortedRow : OpenClaim := { program := "ytfnmddofkpigpaa", sum := "3024d293d02ede3826b95e584729ea44fd6e292ec981f25719194f2ae3d92e6a", func := "loop.example/disclosurecontrol/laws.FnTopSorted", spec := "fnTopSorted", unfollowed := true, recurses := true, apart := false }
def FnTopSortedSaid : Prop := fnTopSortedRow.holds Try.pinned (OpenSpec.ofChange fnTopSortedSpec)

/-- ITS FALSE NEIGHBOUR: 'it returns false'. Refute it at one input. -/
def fnTopSortedWrong : ChangeSpec := { name := "fnTopSorted", fn := fun _ => fun
  | [d] => { results := [.lit (.bool false)], args := [d] }
  | _ => none }
def FnTopSortedWrongFalsely : Prop := fnTopSortedRow.holds Try.pinned (OpenSpec.ofChange fnTopSortedWrong)

/-- 'laws.FnTopAdd': WHATEVER THE INPUT: true; the input reads as it did. -/
def fnTopAddSpec : ChangeSpec := { name := "fnTopAdd", fn := fun _ => fun
  | [d1, d2] => { results := [.lit (.bool true)], args := [d1, d2] }
  | _ => none }
def fnTopAddRow : OpenClaim := { program := "ytfnmddofkpigpaa", sum := "3024d293d02ede3826b95e584729ea44fd6e292ec981f25719194f2ae3d92e6a", func := "loop.example/disclosurecontrol/laws.FnTopAdd", spec := "fnTopAdd", unfollowed := true, recurses := true, apart := false }
def FnTopAddSaid : Prop := fnTopAddRow.holds Try.pinned (OpenSpec.ofChange fnTopAddSpec)

/-- ITS FALSE NEIGHBOUR: 'it returns false'. Refute it at one input. -/
def fnTopAddWrong : ChangeSpec := { name := "fnTopAdd", fn := fun _ => fun
  | [d1, d2] => { results := [.lit (.bool false)], args := [d1, d2] }
  | _ => none }
def FnTopAddWrongFalsely : Prop := fnTopAddRow.holds Try.pinned (OpenSpec.ofChange fnTopAddWrong)

/-- 'laws.FnFewOrder': WHATEVER THE INPUT: true; the input reads as it did. -/
def fnFewOrderSpec : ChangeSpec := { name := "fnFewOrder", fn := fun _ => fun
  | [d1, d2] => { results := [.lit (.bool true)], args := [d1, d2] }
  | _ => none }
def fnFewOrderRow : OpenClaim := { program := "ytfnmddofkpigpaa", sum := "3024d293d02ede3826b95e584729ea44fd6e292ec981f25719194f2ae3d92e6a", func := "loop.example/disclosurecontrol/laws.FnFewOrder", spec := "fnFewOrder", unfollowed := true, recurses := true, apart := false }
def FnFewOrderSaid : Prop := fnFewOrderRow.holds Try.pinned (OpenSpec.ofChange fnFewOrderSpec)

/-- ITS FALSE NEIGHBOUR: 'it returns false'. Refute it at one input. -/
def fnFewOrderWrong : ChangeSpec := { name := "fnFewOrder", fn := fun _ => fun
  | [d1, d2] => { results := [.lit (.bool false)], args := [d1, d2] }
  | _ => none }
def FnFewOrderWrongFalsely : Prop := fnFewOrderRow.holds Try.pinned (OpenSpec.ofChange fnFewOrderWrong)

/-- 'laws.FnGuessTwo': WHATEVER THE INPUT: true; the input reads as it did. -/
def fnGuessTwoSpec : ChangeSpec := { name := "fnGuessTwo", fn := fun _ => fun
  | [d1, d2] => { results := [.lit (.bool true)], args := [d1, d2] }
  | _ => none }
def fnGuessTwoRow : OpenClaim := { program := "ytfnmddofkpigpaa", sum := "3024d293d02ede3826b95e584729ea44fd6e292ec981f25719194f2ae3d92e6a", func := "loop.example/disclosurecontrol/laws.FnGuessTwo", spec := "fnGuessTwo", unfollowed := true, recurses := true, apart := false }
def FnGuessTwoSaid : Prop := fnGuessTwoRow.holds Try.pinned (OpenSpec.ofChange fnGuessTwoSpec)

/-- ITS FALSE NEIGHBOUR: 'it returns false'. Refute it at one input. -/
def fnGuessTwoWrong : ChangeSpec := { name := "fnGuessTwo", fn := fun _ => fun
  | [d1, d2] => { results := [.lit (.bool false)], args := [d1, d2] }
  | _ => none }
def FnGuessTwoWrongFalsely : Prop := fnGuessTwoRow.holds Try.pinned (OpenSpec.ofChange fnGuessTwoWrong)

/-- 'laws.FnFewNone': WHATEVER THE INPUT: true; the input reads as it did. -/
def fnFewNoneSpec : ChangeSpec := { name := "fnFewNone", fn := fun _ => fun
  | [d1, d2] => { results := [.lit (.bool true)], args := [d1, d2] }
  | _ => none }
def fnFewNoneRow : OpenClaim := { program := "ytfnmddofkpigpaa", sum := "3024d293d02ede3826b95e584729ea44fd6e292ec981f25719194f2ae3d92e6a", func := "loop.example/disclosurecontrol/laws.FnFewNone", spec := "fnFewNone", unfollowed := true, recurses := true, apart := false }
def FnFewNoneSaid : Prop := fnFewNoneRow.holds Try.pinned (OpenSpec.ofChange fnFewNoneSpec)

/-- ITS FALSE NEIGHBOUR: 'it returns false'. Refute it at one input. -/
def fnFewNoneWrong : ChangeSpec := { name := "fnFewNone", fn := fun _ => fun
  | [d1, d2] => { results := [.lit (.bool false)], args := [d1, d2] }
  | _ => none }
def FnFewNoneWrongFalsely : Prop := fnFewNoneRow.holds Try.pinned (OpenSpec.ofChange fnFewNoneWrong)

/-- 'laws.FnLeadValue': WHATEVER THE INPUT: true; the input reads as it did. -/
def fnLeadValueSpec : ChangeSpec := { name := "fnLeadValue", fn := fun _ => fun
  | [d] => { results := [.lit (.bool true)], args := [d] }
  | _ => none }
def fnLeadValueRow : OpenClaim := { program := "ytfnmddofkpigpaa", sum := "3024d293d02ede3826b95e584729ea44fd6e292ec981f25719194f2ae3d92e6a", func := "loop.example/disclosurecontrol/laws.FnLeadValue", spec := "fnLeadValue", unfollowed := true, recurses := true, apart := false }
def FnLeadValueSaid : Prop := fnLeadValueRow.holds Try.pinned (OpenSpec.ofChange fnLeadValueSpec)

/-- ITS FALSE NEIGHBOUR: 'it returns false'. Refute it at one input. -/
def fnLeadValueWrong : ChangeSpec := { name := "fnLeadValue", fn := fun _ => fun
  | [d] => { results := [.lit (.bool false)], args := [d] }
  | _ => none }
def FnLeadValueWrongFalsely : Prop := fnLeadValueRow.holds Try.pinned (OpenSpec.ofChange fnLeadValueWrong)

/- THE SECOND FORM. 'bulk': how many values and letters a reading holds, each counted each time it is reached (what is shared counts as often as it is met; a slice's spare places count too). A statement '..UptoSaid' is the law's where the arguments, and the package variables that the reading takes, are together of bulk at most 1048576: NARROWER than '..Said'. Prove '..Said' where nothing that the law and all that it calls make is longer than what came in: it says more and counts as full. Else prove '..UptoSaid'. A law counts once. -/
mutual
def uptoBulk {H : Type} : DataW H → Nat
  | .lit (.string bytes) => bytes.length + 1
  | .lit _ => 1
  | .nil => 1
  | .ptr d => uptoBulk d + 1
  | .slice elems spare => uptoBulkAll elems + uptoBulkAll spare + 1
  | .agg parts => uptoBulkAll parts + 1
  | .iface _ d => uptoBulk d + 1
  | .map entries => uptoBulkEntries entries + 1
  | .held _ => 1
def uptoBulkAll {H : Type} : List (DataW H) → Nat
  | [] => 0
  | d :: r => uptoBulk d + uptoBulkAll r
def uptoBulkEntries {H : Type} : List (Lit × DataW H) → Nat
  | [] => 0
  | x :: r => uptoBulkEntry x + uptoBulkEntries r
def uptoBulkEntry {H : Type} : Lit × DataW H → Nat
  | (.string bytes, d) => bytes.length + uptoBulk d + 1
  | (_, d) => uptoBulk d + 1
 end
def uptoSmall : (H : Type) → List (DataW H) → Bool := fun _ ds => decide (uptoBulkAll ds ≤ 1048576)
def OpenSpec.upto (s : _root_.Go.ChangeSpec) : _root_.Go.OpenSpec := { _root_.Go.OpenSpec.ofChange s with cond := some uptoSmall }

/-- 'laws.FnParts', WHERE WHAT IT READS IS OF BULK AT MOST 1048576: true; the input reads as it did. -/
def fnPartsUptoRow : OpenClaim := { program := "ytfnmddofkpigpaa", sum := "3024d293d02ede3826b95e584729ea44fd6e292ec981f25719194f2ae3d92e6a", func := "loop.example/disclosurecontrol/laws.FnParts", spec := "fnParts", apart := false, narrowed := true }
def FnPartsUptoSaid : Prop := fnPartsUptoRow.holds Try.pinned (OpenSpec.upto fnPartsSpec)

/-- 'laws.FnTop', WHERE WHAT IT READS IS OF BULK AT MOST 1048576: true; the input reads as it did. -/
def fnTopUptoRow : OpenClaim := { program := "ytfnmddofkpigpaa", sum := "3024d293d02ede3826b95e584729ea44fd6e292ec981f25719194f2ae3d92e6a", func := "loop.example/disclosurecontrol/laws.FnTop", spec := "fnTop", unfollowed := true, recurses := true, apart := false, narrowed := true }
def FnTopUptoSaid : Prop := fnTopUptoRow.holds Try.pinned (OpenSpec.upto fnTopSpec)

/-- 'laws.FnTopOrder', WHERE WHAT IT READS IS OF BULK AT MOST 1048576: true; the input reads as it did. -/
def fnTopOrderUptoRow : OpenClaim := { program := "ytfnmddofkpigpaa", sum := "3024d293d02ede3826b95e584729ea44fd6e292ec981f25719194f2ae3d92e6a", func := "loop.example/disclosurecontrol/laws.FnTopOrder", spec := "fnTopOrder", unfollowed := true, recurses := true, apart := false, narrowed := true }
def FnTopOrderUptoSaid : Prop := fnTopOrderUptoRow.holds Try.pinned (OpenSpec.upto fnTopOrderSpec)

/-- 'laws.FnFew', WHERE WHAT IT READS IS OF BULK AT MOST 1048576: true; the input reads as it did. -/
def fnFewUptoRow : OpenClaim := { program := "ytfnmddofkpigpaa", sum := "3024d293d02ede3826b95e584729ea44fd6e292ec981f25719194f2ae3d92e6a", func := "loop.example/disclosurecontrol/laws.FnFew", spec := "fnFew", unfollowed := true, recurses := true, apart := false, narrowed := true }
def FnFewUptoSaid : Prop := fnFewUptoRow.holds Try.pinned (OpenSpec.upto fnFewSpec)

/-- 'laws.FnTopSorted', WHERE WHAT IT READS IS OF BULK AT MOST 1048576: true; the input reads as it did. -/
def fnTopSortedUptoRow : OpenClaim := { program := "ytfnmddofkpigpaa", sum := "3024d293d02ede3826b95e584729ea44fd6e292ec981f25719194f2ae3d92e6a", func := "loop.example/disclosurecontrol/laws.FnTopSorted", spec := "fnTopSorted", unfollowed := true, recurses := true, apart := false, narrowed := true }
def FnTopSortedUptoSaid : Prop := fnTopSortedUptoRow.holds Try.pinned (OpenSpec.upto fnTopSortedSpec)

/-- 'laws.FnTopAdd', WHERE WHAT IT READS IS OF BULK AT MOST 1048576: true; the input reads as it did. -/
def fnTopAddUptoRow : OpenClaim := { program := "ytfnmddofkpigpaa", sum := "3024d293d02ede3826b95e584729ea44fd6e292ec981f25719194f2ae3d92e6a", func := "loop.example/disclosurecontrol/laws.FnTopAdd", spec := "fnTopAdd", unfollowed := true, recurses := true, apart := false, narrowed := true }
def FnTopAddUptoSaid : Prop := fnTopAddUptoRow.holds Try.pinned (OpenSpec.upto fnTopAddSpec)

/-- 'laws.FnFewOrder', WHERE WHAT IT READS IS OF BULK AT MOST 1048576: true; the input reads as it did. -/
def fnFewOrderUptoRow : OpenClaim := { program := "ytfnmddofkpigpaa", sum := "3024d293d02ede3826b95e584729ea44fd6e292ec981f25719194f2ae3d92e6a", func := "loop.example/disclosurecontrol/laws.FnFewOrder", spec := "fnFewOrder", unfollowed := true, recurses := true, apart := false, narrowed := true }
def FnFewOrderUptoSaid : Prop := fnFewOrderUptoRow.holds Try.pinned (OpenSpec.upto fnFewOrderSpec)

/-- 'laws.FnGuessTwo', WHERE WHAT IT READS IS OF BULK AT MOST 1048576: true; the input reads as it did. -/
def fnGuessTwoUptoRow : OpenClaim := { program := "ytfnmddofkpigpaa", sum := "3024d293d02ede3826b95e584729ea44fd6e292ec981f25719194f2ae3d92e6a", func := "loop.example/disclosurecontrol/laws.FnGuessTwo", spec := "fnGuessTwo", unfollowed := true, recurses := true, apart := false, narrowed := true }
def FnGuessTwoUptoSaid : Prop := fnGuessTwoUptoRow.holds Try.pinned (OpenSpec.upto fnGuessTwoSpec)

/-- 'laws.FnFewNone', WHERE WHAT IT READS IS OF BULK AT MOST 1048576: true; the input reads as it did. -/
def fnFewNoneUptoRow : OpenClaim := { program := "ytfnmddofkpigpaa", sum := "3024d293d02ede3826b95e584729ea44fd6e292ec981f25719194f2ae3d92e6a", func := "loop.example/disclosurecontrol/laws.FnFewNone", spec := "fnFewNone", unfollowed := true, recurses := true, apart := false, narrowed := true }
def FnFewNoneUptoSaid : Prop := fnFewNoneUptoRow.holds Try.pinned (OpenSpec.upto fnFewNoneSpec)

/-- 'laws.FnLeadValue', WHERE WHAT IT READS IS OF BULK AT MOST 1048576: true; the input reads as it did. -/
def fnLeadValueUptoRow : OpenClaim := { program := "ytfnmddofkpigpaa", sum := "3024d293d02ede3826b95e584729ea44fd6e292ec981f25719194f2ae3d92e6a", func := "loop.example/disclosurecontrol/laws.FnLeadValue", spec := "fnLeadValue", unfollowed := true, recurses := true, apart := false, narrowed := true }
def FnLeadValueUptoSaid : Prop := fnLeadValueUptoRow.holds Try.pinned (OpenSpec.upto fnLeadValueSpec)

end Rows
end Go.Proofs.Ytfnmddofkpigpaa
