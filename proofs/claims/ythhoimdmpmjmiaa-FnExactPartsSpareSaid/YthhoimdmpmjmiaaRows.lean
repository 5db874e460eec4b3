/-
  No cell of these rows narrows 'for every input' (looked for: loops, veiled, ifaces, maps, wideKeys, modest, calm, conditions, laid).
  DERIVED. THE GIVEN ROWS OF THIS SEAT. 6 by the template 'for every input the law returns true; each argument reads behind the call as it read before'; 0 by the template 'total and deterministic' (their statements: YthhoimdmpmjmiaaTotals.lean).
  GIVEN WITH THE SEED: the statements are not yours to turn. If you find one false, say at which input.
  Laid BY PROGRAM, IN A SANDBOX (cutbox-rows.mjs): the forced cells as the released guide's own fill.sh prints them over the translation ddede6c1618fdf40… (all of the seat's roots in one cut). By AI agents, Wed Nov 11 2026. No macro, syntax, notation, axiom, sorry.
-/
import Derived.Test.YthhoimdmpmjmiaaChecked
import GoSem.Claim
import GoSem.ClaimJoined
import GoSem.ClaimMapViews
import Derived.JoinedTies
import Derived.KernelRfl
namespace Go.Proofs.Ythhoimdmpmjmiaa
/- THE CELL 'sum', in the pinned program and in every row, IS THE sha256 OF THE DUMP (.gsa) THAT YthhoimdmpmjmiaaProg.lean LOADS. Nothing in Lean hashes anything: it is a label: what it is worth is what the hold of that sum in a sandbox is worth. -/
noncomputable def Try.pinned : Pinned := { name := "ythhoimdmpmjmiaa", sum := "ddede6c1618fdf400ed639ed530259941bd92206eda28bcffadd98ed69351ec5", checked := Try.checked }
namespace Rows
def none {H : Type} : Left H := { results := [], args := [] }

/-- 'laws.FnExactPartsValid': WHATEVER THE INPUT: true; the input reads as it did. -/
def fnExactPartsValidSpec : ChangeSpec := { name := "fnExactPartsValid", fn := fun _ => fun
  | [d] => { results := [.lit (.bool true)], args := [d] }
  | _ => none }
def fnExactPartsValidRow : OpenClaim := { program := "ythhoimdmpmjmiaa", sum := "ddede6c1618fdf400ed639ed530259941bd92206eda28bcffadd98ed69351ec5", func := "loop.example/disclosurecontrol/laws.FnExactPartsValid", spec := "fnExactPartsValid", apart := false }
def FnExactPartsValidSaid : Prop := fnExactPartsValidRow.holds Try.pinned (OpenSpec.ofChange fnExactPartsValidSpec)

/-- ITS FALSE NEIGHBOUR: 'it returns false'. Refute it at one input. -/
def fnExactPartsValidWrong : ChangeSpec := { name := "fnExactPartsValid", fn := fun _ => fun
  | [d] => { results := [.lit (.bool false)], args := [d] }
  | _ => none }
def FnExactPartsValidWrongFalsely : Prop := fnExactPartsValidRow.holds Try.pinned (OpenSpec.ofChange fnExactPartsValidWrong)

/-- 'laws.FnExactPartsTop': WHATEVER THE INPUT: true; the input reads as it did. -/
def fnExactPartsTopSpec : ChangeSpec := { name := "fnExactPartsTop", fn := fun _ => fun
  | [d1, d2] => { results := [.lit (.bool true)], args := [d1, d2] }
  | _ => none }
def fnExactPartsTopRow : OpenClaim := { program := "ythhoimdmpmjmiaa", sum := "ddede6c1618fdf400ed639ed530259941bd92206eda28bcffadd98ed69351ec5", func := "loop.example/disclosurecontrol/laws.FnExactPartsTop", spec := "fnExactPartsTop", unfollowed := true, recurses := true, apart := false }
def FnExactPartsTopSaid : Prop := fnExactPartsTopRow.holds Try.pinned (OpenSpec.ofChange fnExactPartsTopSpec)

/-- ITS FALSE NEIGHBOUR: 'it returns false'. Refute it at one input. -/
def fnExactPartsTopWrong : ChangeSpec := { name := "fnExactPartsTop", fn := fun _ => fun
  | [d1, d2] => { results := [.lit (.bool false)], args := [d1, d2] }
  | _ => none }
def FnExactPartsTopWrongFalsely : Prop := fnExactPartsTopRow.holds Try.pinned (OpenSpec.ofChange fnExactPartsTopWrong)

/-- 'laws.FnExactPartsFew': WHATEVER THE INPUT: true; the input reads as it did. -/
def fnExactPartsFewSpec : ChangeSpec := { name := "fnExactPartsFew", fn := fun _ => fun
  | [d1, d2] => { results := [.lit (.bool true)], args := [d1, d2] }
  | _ => none }
def fnExactPartsFewRow : OpenClaim := { program := "ythhoimdmpmjmiaa", sum := "ddede6c1618fdf400ed639ed530259941bd92206eda28bcffadd98ed69351ec5", func := "loop.example/disclosurecontrol/laws.FnExactPartsFew", spec := "fnExactPartsFew", unfollowed := true, recurses := true, apart := false }
def FnExactPartsFewSaid : Prop := fnExactPartsFewRow.holds Try.pinned (OpenSpec.ofChange fnExactPartsFewSpec)

/-- ITS FALSE NEIGHBOUR: 'it returns false'. Refute it at one input. -/
def fnExactPartsFewWrong : ChangeSpec := { name := "fnExactPartsFew", fn := fun _ => fun
  | [d1, d2] => { results := [.lit (.bool false)], args := [d1, d2] }
  | _ => none }
def FnExactPartsFewWrongFalsely : Prop := fnExactPartsFewRow.holds Try.pinned (OpenSpec.ofChange fnExactPartsFewWrong)

/-- 'laws.FnExactPartsLead': WHATEVER THE INPUT: true; the input reads as it did. -/
def fnExactPartsLeadSpec : ChangeSpec := { name := "fnExactPartsLead", fn := fun _ => fun
  | [d1, d2, d3] => { results := [.lit (.bool true)], args := [d1, d2, d3] }
  | _ => none }
def fnExactPartsLeadRow : OpenClaim := { program := "ythhoimdmpmjmiaa", sum := "ddede6c1618fdf400ed639ed530259941bd92206eda28bcffadd98ed69351ec5", func := "loop.example/disclosurecontrol/laws.FnExactPartsLead", spec := "fnExactPartsLead", unfollowed := true, recurses := true, apart := false }
def FnExactPartsLeadSaid : Prop := fnExactPartsLeadRow.holds Try.pinned (OpenSpec.ofChange fnExactPartsLeadSpec)

/-- ITS FALSE NEIGHBOUR: 'it returns false'. Refute it at one input. -/
def fnExactPartsLeadWrong : ChangeSpec := { name := "fnExactPartsLead", fn := fun _ => fun
  | [d1, d2, d3] => { results := [.lit (.bool false)], args := [d1, d2, d3] }
  | _ => none }
def FnExactPartsLeadWrongFalsely : Prop := fnExactPartsLeadRow.holds Try.pinned (OpenSpec.ofChange fnExactPartsLeadWrong)

/-- 'laws.FnExactPartsGuess': WHATEVER THE INPUT: true; the input reads as it did. -/
def fnExactPartsGuessSpec : ChangeSpec := { name := "fnExactPartsGuess", fn := fun _ => fun
  | [d1, d2] => { results := [.lit (.bool true)], args := [d1, d2] }
  | _ => none }
def fnExactPartsGuessRow : OpenClaim := { program := "ythhoimdmpmjmiaa", sum := "ddede6c1618fdf400ed639ed530259941bd92206eda28bcffadd98ed69351ec5", func := "loop.example/disclosurecontrol/laws.FnExactPartsGuess", spec := "fnExactPartsGuess", unfollowed := true, recurses := true, apart := false }
def FnExactPartsGuessSaid : Prop := fnExactPartsGuessRow.holds Try.pinned (OpenSpec.ofChange fnExactPartsGuessSpec)

/-- ITS FALSE NEIGHBOUR: 'it returns false'. Refute it at one input. -/
def fnExactPartsGuessWrong : ChangeSpec := { name := "fnExactPartsGuess", fn := fun _ => fun
  | [d1, d2] => { results := [.lit (.bool false)], args := [d1, d2] }
  | _ => none }
def FnExactPartsGuessWrongFalsely : Prop := fnExactPartsGuessRow.holds Try.pinned (OpenSpec.ofChange fnExactPartsGuessWrong)

/-- 'laws.FnExactPartsSpare': WHATEVER THE INPUT: true; the input reads as it did. -/
def fnExactPartsSpareSpec : ChangeSpec := { name := "fnExactPartsSpare", fn := fun _ => fun
  | [d1, d2] => { results := [.lit (.bool true)], args := [d1, d2] }
  | _ => none }
def fnExactPartsSpareRow : OpenClaim := { program := "ythhoimdmpmjmiaa", sum := "ddede6c1618fdf400ed639ed530259941bd92206eda28bcffadd98ed69351ec5", func := "loop.example/disclosurecontrol/laws.FnExactPartsSpare", spec := "fnExactPartsSpare", unfollowed := true, recurses := true, apart := false }
def FnExactPartsSpareSaid : Prop := fnExactPartsSpareRow.holds Try.pinned (OpenSpec.ofChange fnExactPartsSpareSpec)

/-- ITS FALSE NEIGHBOUR: 'it returns false'. Refute it at one input. -/
def fnExactPartsSpareWrong : ChangeSpec := { name := "fnExactPartsSpare", fn := fun _ => fun
  | [d1, d2] => { results := [.lit (.bool false)], args := [d1, d2] }
  | _ => none }
def FnExactPartsSpareWrongFalsely : Prop := fnExactPartsSpareRow.holds Try.pinned (OpenSpec.ofChange fnExactPartsSpareWrong)

/- THE SECOND FORM. 'bulk': how many values and letters a reading holds, each counted each time it is reached (what is shared counts as often as it is met; a slice's spare places count too). A statement '..UptoSaid' is the law's where the arguments, and the package variables that the reading takes, are together of bulk at most 1048576: NARROWER than '..Said'. Prove '..Said' where nothing that the law and all that it calls make is longer than what came in: it says more and counts as full. Else prove '..UptoSaid'. A law counts once. -/
mutual
def uptoBulk {H : Type} : DataW H → Nat
  | .lit (.string bytes) => bytes.length + 1
  | .lit _ => 1
  | .nil => 1
  | .ptr d => uptoBulk d + 1
  | .slice elems spare => uptoBulkAll elems + uptoBulkAll spare + 1
  | .agg parts => uptoBulkAll parts + 1
  | .iface _ d => uptoBulk d + 1
  | .map entries => uptoBulkEntries entries + 1
  | .held _ => 1
def uptoBulkAll {H : Type} : List (DataW H) → Nat
  | [] => 0
  | d :: r => uptoBulk d + uptoBulkAll r
def uptoBulkEntries {H : Type} : List (Lit × DataW H) → Nat
  | [] => 0
  | x :: r => uptoBulkEntry x + uptoBulkEntries r
def uptoBulkEntry {H : Type} : Lit × DataW H → Nat
  | (.string bytes, d) => bytes.length + uptoBulk d + 1
  | (_, d) => uptoBulk d + 1
 end
def uptoSmall : (H : Type) → List (DataW H) → Bool := fun _ ds => decide (uptoBulkAll ds ≤ 1048576)
def OpenSpec.upto (s : _root_.Go.ChangeSpec) : _root_.Go.OpenSpec := { _root_.Go.OpenSpec.ofChange s with cond := some uptoSmall }

/-- 'laws.FnExactPartsValid', WHERE WHAT IT READS IS OF BULK AT MOST 1048576: true; the input reads as it did. -/
def fnExactPartsValidUptoRow : OpenClaim := { program := "ythhoimdmpmjmiaa", sum := "ddede6c1618fdf400ed639ed530259941bd92206eda28bcffadd98ed69351ec5", func := "loop.example/disclosurecontrol/laws.FnExactPartsValid", spec := "fnExactPartsValid", apart := false, narrowed := true }
def FnExactPartsValidUptoSaid : Prop := fnExactPartsValidUptoRow.holds Try.pinned (OpenSpec.upto fnExactPartsValidSpec)

/-- 'laws.FnExactPartsTop', WHERE WHAT IT READS IS OF BULK AT MOST 1048576: true; the input reads as it did. -/
def fnExactPartsTopUptoRow : OpenClaim := { program := "ythhoimdmpmjmiaa", sum := "ddede6c1618fdf400ed639ed530259941bd92206eda28bcffadd98ed69351ec5", func := "loop.example/disclosurecontrol/laws.FnExactPartsTop", spec := "fnExactPartsTop", unfollowed := true, recurses := true, apart := false, narrowed := true }
def FnExactPartsTopUptoSaid : Prop := fnExactPartsTopUptoRow.holds Try.pinned (OpenSpec.upto fnExactPartsTopSpec)

/-- 'laws.FnExactPartsFew', WHERE WHAT IT READS IS OF BULK AT MOST 1048576: true; the input reads as it did. -/
def fnExactPartsFewUptoRow : OpenClaim := { program := "ythhoimdmpmjmiaa", sum := "ddede6c1618fdf400ed639ed530259941bd92206eda28bcffadd98ed69351ec5", func := "loop.example/disclosurecontrol/laws.FnExactPartsFew", spec := "fnExactPartsFew", unfollowed := true, recurses := true, apart := false, narrowed := true }
def FnExactPartsFewUptoSaid : Prop := fnExactPartsFewUptoRow.holds Try.pinned (OpenSpec.upto fnExactPartsFewSpec)

/-- 'laws.FnExactPartsLead', WHERE WHAT IT READS IS OF BULK AT MOST 1048576: true; the input reads as it did. -/
def fnExactPartsLeadUptoRow : OpenClaim := { program := "ythhoimdmpmjmiaa", sum := "ddede6c1618fdf400ed639ed530259941bd92206eda28bcffadd98ed69351ec5", func := "loop.example/disclosurecontrol/laws.FnExactPartsLead", spec := "fnExactPartsLead", unfollowed := true, recurses := true, apart := false, narrowed := true }
def FnExactPartsLeadUptoSaid : Prop := fnExactPartsLeadUptoRow.holds Try.pinned (OpenSpec.upto fnExactPartsLeadSpec)

/-- 'laws.FnExactPartsGuess', WHERE WHAT IT READS IS OF BULK AT MOST 1048576: true; the input reads as it did. -/
def fnExactPartsGuessUptoRow : OpenClaim := { program := "ythhoimdmpmjmiaa", sum := "ddede6c1618fdf400ed639ed530259941bd92206eda28bcffadd98ed69351ec5", func := "loop.example/disclosurecontrol/laws.FnExactPartsGuess", spec := "fnExactPartsGuess", unfollowed := true, recurses := true, apart := false, narrowed := true }
def FnExactPartsGuessUptoSaid : Prop := fnExactPartsGuessUptoRow.holds Try.pinned (OpenSpec.upto fnExactPartsGuessSpec)

/-- 'laws.FnExactPartsSpare', WHERE WHAT IT READS IS OF BULK AT MOST 1048576: true; the input reads as it did. -/
def fnExactPartsSpareUptoRow : OpenClaim := { program := "ythhoimdmpmjmiaa", sum := "ddede6c1618fdf400ed639ed530259941bd92206eda28bcffadd98ed69351ec5", func := "loop.example/disclosurecontrol/laws.FnExactPartsSpare", spec := "fnExactPartsSpare", unfollowed := true, recurses := true, apart := false, narrowed := true }
def FnExactPartsSpareUptoSaid : Prop := fnExactPartsSpareUptoRow.holds Try.pinned (OpenSpec.upto fnExactPartsSpareSpec)

end Rows
end Go.Proofs.Ythhoimdmpmjmiaa
