/-
  No cell of these rows narrows 'for every input' (looked for: loops, veiled, ifaces, maps, wideKeys, modest, calm, conditions, laid).
  DERIVED. THE GIVEN ROWS OF THIS SEAT. 6 by the template 'for every input the law returns true; each argument reads behind the call as it read before'; 0 by the template 'total and deterministic' (their statements: YtdjjkfhdgnlkeaaTotals.lean).
  GIVEN WITH THE SEED: the statements are not yours to turn. If you find one false, say at which input.
  Laid BY PROGRAM, IN A SANDBOX (cutbox-rows.mjs): the forced cells as the released guide's own fill.sh prints them over the translation 8136a24f68e0b926… (all of the seat's roots in one cut). By AI agents, Wed Nov 11 2026. No macro, syntax, notation, axiom, sorry.
-/
import Derived.Test.YtdjjkfhdgnlkeaaChecked
import GoSem.Claim
import GoSem.ClaimJoined
import GoSem.ClaimMapViews
import Derived.JoinedTies
import Derived.KernelRfl
namespace Go.Proofs.Ytdjjkfhdgnlkeaa
/- THE CELL 'sum', in the pinned program and in every row, IS THE sha256 OF THE DUMP (.gsa) THAT YtdjjkfhdgnlkeaaProg.lean LOADS. Nothing in Lean hashes anything: it is a label: what it is worth is what the hold of that sum in a sandbox is worth. -/
noncomputable def Try.pinned : Pinned := { name := "ytdjjkfhdgnlkeaa", sum := "8136a24f68e0b9267e9726df15657eeaec4eb52c33078be9fb7600bd23f7c434", checked := Try.checked }
namespace Rows
def none {H : Type} : Left H := { results := [], args := [] }

/-- 'laws.FnFit': WHATEVER THE INPUT: true; the input reads as it did. -/
def fnFitSpec : ChangeSpec := { name := "fnFit", fn := fun _ => fun
  | [d] => { results := [.lit (.bool true)], args := [d] }
  | _ => none }
def fnFitRow : OpenClaim := { program := "ytdjjkfhdgnlkeaa", sum := "8136a24f68e0b9267e9726df15657eeaec4eb52c33078be9fb7600bd23f7c434", func := "loop.example/disclosurecontrol/laws.FnFit", spec := "fnFit", unfollowed := true, recurses := true, apart := false }
def FnFitSaid : Prop := fnFitRow.holds Try.pinned (OpenSpec.ofChange fnFitSpec)

/-- ITS FALSE NEIGHBOUR: 'it returns false'. Refute it at one input. -/
def fnFitWrong : ChangeSpec := { name := "fnFit", fn := fun _ => fun
  | [d] => { results := [.lit (.bool false)], args := [d] }
  | _ => none }
def FnFitWrongFalsely : Prop := fnFitRow.holds Try.pinned (OpenSpec.ofChange fnFitWrong)

/-- 'laws.FnFitSwap': WHATEVER THE INPUT: true; the input reads as it did. -/
def fnFitSwapSpec : ChangeSpec := { name := "fnFitSwap", fn := fun _ => fun
  | [d] => { results := [.lit (.bool true)], args := [d] }
  | _ => none }
def fnFitSwapRow : OpenClaim := { program := "ytdjjkfhdgnlkeaa", sum := "8136a24f68e0b9267e9726df15657eeaec4eb52c33078be9fb7600bd23f7c434", func := "loop.example/disclosurecontrol/laws.FnFitSwap", spec := "fnFitSwap", unfollowed := true, recurses := true, apart := false }
def FnFitSwapSaid : Prop := fnFitSwapRow.holds Try.pinned (OpenSpec.ofChange fnFitSwapSpec)

/-- ITS FALSE NEIGHBOUR: 'it returns false'. Refute it at one input. -/
def fnFitSwapWrong : ChangeSpec := { name := "fnFitSwap", fn := fun _ => fun
  | [d] => { results := [.lit (.bool false)], args := [d] }
  | _ => none }
def FnFitSwapWrongFalsely : Prop := fnFitSwapRow.holds Try.pinned (OpenSpec.ofChange fnFitSwapWrong)

/-- 'laws.FnFitOnly': WHATEVER THE INPUT: true; the input reads as it did. -/
def fnFitOnlySpec : ChangeSpec := { name := "fnFitOnly", fn := fun _ => fun
  | [d] => { results := [.lit (.bool true)], args := [d] }
  | _ => none }
def fnFitOnlyRow : OpenClaim := { program := "ytdjjkfhdgnlkeaa", sum := "8136a24f68e0b9267e9726df15657eeaec4eb52c33078be9fb7600bd23f7c434", func := "loop.example/disclosurecontrol/laws.FnFitOnly", spec := "fnFitOnly", unfollowed := true, recurses := true, apart := false }
def FnFitOnlySaid : Prop := fnFitOnlyRow.holds Try.pinned (OpenSpec.ofChange fnFitOnlySpec)

/-- ITS FALSE NEIGHBOUR: 'it returns false'. Refute it at one input. -/
def fnFitOnlyWrong : ChangeSpec := { name := "fnFitOnly", fn := fun _ => fun
  | [d] => { results := [.lit (.bool false)], args := [d] }
  | _ => none }
def FnFitOnlyWrongFalsely : Prop := fnFitOnlyRow.holds Try.pinned (OpenSpec.ofChange fnFitOnlyWrong)

/-- 'laws.FnHighOne': WHATEVER THE INPUT: true; the input reads as it did. -/
def fnHighOneSpec : ChangeSpec := { name := "fnHighOne", fn := fun _ => fun
  | [d] => { results := [.lit (.bool true)], args := [d] }
  | _ => none }
def fnHighOneRow : OpenClaim := { program := "ytdjjkfhdgnlkeaa", sum := "8136a24f68e0b9267e9726df15657eeaec4eb52c33078be9fb7600bd23f7c434", func := "loop.example/disclosurecontrol/laws.FnHighOne", spec := "fnHighOne", unfollowed := true, recurses := true, apart := false }
def FnHighOneSaid : Prop := fnHighOneRow.holds Try.pinned (OpenSpec.ofChange fnHighOneSpec)

/-- ITS FALSE NEIGHBOUR: 'it returns false'. Refute it at one input. -/
def fnHighOneWrong : ChangeSpec := { name := "fnHighOne", fn := fun _ => fun
  | [d] => { results := [.lit (.bool false)], args := [d] }
  | _ => none }
def FnHighOneWrongFalsely : Prop := fnHighOneRow.holds Try.pinned (OpenSpec.ofChange fnHighOneWrong)

/-- 'laws.FnHighOrder': WHATEVER THE INPUT: true; the input reads as it did. -/
def fnHighOrderSpec : ChangeSpec := { name := "fnHighOrder", fn := fun _ => fun
  | [d] => { results := [.lit (.bool true)], args := [d] }
  | _ => none }
def fnHighOrderRow : OpenClaim := { program := "ytdjjkfhdgnlkeaa", sum := "8136a24f68e0b9267e9726df15657eeaec4eb52c33078be9fb7600bd23f7c434", func := "loop.example/disclosurecontrol/laws.FnHighOrder", spec := "fnHighOrder", unfollowed := true, recurses := true, apart := false }
def FnHighOrderSaid : Prop := fnHighOrderRow.holds Try.pinned (OpenSpec.ofChange fnHighOrderSpec)

/-- ITS FALSE NEIGHBOUR: 'it returns false'. Refute it at one input. -/
def fnHighOrderWrong : ChangeSpec := { name := "fnHighOrder", fn := fun _ => fun
  | [d] => { results := [.lit (.bool false)], args := [d] }
  | _ => none }
def FnHighOrderWrongFalsely : Prop := fnHighOrderRow.holds Try.pinned (OpenSpec.ofChange fnHighOrderWrong)

/-- 'laws.FnHighStep': WHATEVER THE INPUT: true; the input reads as it did. -/
def fnHighStepSpec : ChangeSpec := { name := "fnHighStep", fn := fun _ => fun
  | [d] => { results := [.lit (.bool true)], args := [d] }
  | _ => none }
def fnHighStepRow : OpenClaim := { program := "ytdjjkfhdgnlkeaa", sum := "8136a24f68e0b9267e9726df15657eeaec4eb52c33078be9fb7600bd23f7c434", func := "loop.example/disclosurecontrol/laws.FnHighStep", spec := "fnHighStep", unfollowed := true, recurses := true, apart := false }
def FnHighStepSaid : Prop := fnHighStepRow.holds Try.pinned (OpenSpec.ofChange fnHighStepSpec)

/-- ITS FALSE NEIGHBOUR: 'it returns false'. Refute it at one input. -/
def fnHighStepWrong : ChangeSpec := { name := "fnHighStep", fn := fun _ => fun
  | [d] => { results := [.lit (.bool false)], args := [d] }
  | _ => none }
def FnHighStepWrongFalsely : Prop := fnHighStepRow.holds Try.pinned (OpenSpec.ofChange fnHighStepWrong)

/- THE SECOND FORM. 'bulk': how many values and letters a reading holds, each counted each time it is reached (what is shared counts as often as it is met; a slice's spare places count too). A statement '..UptoSaid' is the law's where the arguments, and the package variables that the reading takes, are together of bulk at most 1048576: NARROWER than '..Said'. Prove '..Said' where nothing that the law and all that it calls make is longer than what came in: it says more and counts as full. Else prove '..UptoSaid'. A law counts once. -/
mutual
def uptoBulk {H : Type} : DataW H → Nat
  | .lit (.string bytes) => bytes.length + 1
  | .lit _ => 1
  | .nil => 1
  | .ptr d => uptoBulk d + 1
  | .slice elems spare => uptoBulkAll elems + uptoBulkAll spare + 1
  | .agg parts => uptoBulkAll parts + 1
  | .iface _ d => uptoBulk d + 1
  | .map entries => uptoBulkEntries entries + 1
  | .held _ => 1
def uptoBulkAll {H : Type} : List (DataW H) → Nat
  | [] => 0
  | d :: r => uptoBulk d + uptoBulkAll r
def uptoBulkEntries {H : Type} : List (Lit × DataW H) → Nat
  | [] => 0
  | x :: r => uptoBulkEntry x + uptoBulkEntries r
def uptoBulkEntry {H : Type} : Lit × DataW H → Nat
  | (.string bytes, d) => bytes.length + uptoBulk d + 1
  | (_, d) => uptoBulk d + 1
 end
def uptoSmall : (H : Type) → List (DataW H) → Bool := fun _ ds => decide (uptoBulkAll ds ≤ 1048576)
def OpenSpec.upto (s : _root_.Go.ChangeSpec) : _root_.Go.OpenSpec := { _root_.Go.OpenSpec.ofChange s with cond := some uptoSmall }

/-- 'laws.FnFit', WHERE WHAT IT READS IS OF BULK AT MOST 1048576: true; the input reads as it did. -/
def fnFitUptoRow : OpenClaim := { program := "ytdjjkfhdgnlkeaa", sum := "8136a24f68e0b9267e9726df15657eeaec4eb52c33078be9fb7600bd23f7c434", func := "loop.example/disclosurecontrol/laws.FnFit", spec := "fnFit", unfollowed := true, recurses := true, apart := false, narrowed := true }
def FnFitUptoSaid : Prop := fnFitUptoRow.holds Try.pinned (OpenSpec.upto fnFitSpec)

/-- 'laws.FnFitSwap', WHERE WHAT IT READS IS OF BULK AT MOST 1048576: true; the input reads as it did. -/
def fnFitSwapUptoRow : OpenClaim := { program := "ytdjjkfhdgnlkeaa", sum := "8136a24f68e0b9267e9726df15657eeaec4eb52c33078be9fb7600bd23f7c434", func := "loop.example/disclosurecontrol/laws.FnFitSwap", spec := "fnFitSwap", unfollowed := true, recurses := true, apart := false, narrowed := true }
def FnFitSwapUptoSaid : Prop := fnFitSwapUptoRow.holds Try.pinned (OpenSpec.upto fnFitSwapSpec)

/-- 'laws.FnFitOnly', WHERE WHAT IT READS IS OF BULK AT MOST 1048576: true; the input reads as it did. -/
def fnFitOnlyUptoRow : OpenClaim := { program := "ytdjjkfhdgnlkeaa", sum := "8136a24f68e0b9267e9726df15657eeaec4eb52c33078be9fb7600bd23f7c434", func := "loop.example/disclosurecontrol/laws.FnFitOnly", spec := "fnFitOnly", unfollowed := true, recurses := true, apart := false, narrowed := true }
def FnFitOnlyUptoSaid : Prop := fnFitOnlyUptoRow.holds Try.pinned (OpenSpec.upto fnFitOnlySpec)

/-- 'laws.FnHighOne', WHERE WHAT IT READS IS OF BULK AT MOST 1048576: true; the input reads as it did. -/
def fnHighOneUptoRow : OpenClaim := { program := "ytdjjkfhdgnlkeaa", sum := "8136a24f68e0b9267e9726df15657eeaec4eb52c33078be9fb7600bd23f7c434", func := "loop.example/disclosurecontrol/laws.FnHighOne", spec := "fnHighOne", unfollowed := true, recurses := true, apart := false, narrowed := true }
def FnHighOneUptoSaid : Prop := fnHighOneUptoRow.holds Try.pinned (OpenSpec.upto fnHighOneSpec)

/-- 'laws.FnHighOrder', WHERE WHAT IT READS IS OF BULK AT MOST 1048576: true; the input reads as it did. -/
def fnHighOrderUptoRow : OpenClaim := { program := "ytdjjkfhdgnlkeaa", sum := "8136a24f68e0b9267e9726df15657eeaec4eb52c33078be9fb7600bd23f7c434", func := "loop.example/disclosurecontrol/laws.FnHighOrder", spec := "fnHighOrder", unfollowed := true, recurses := true, apart := false, narrowed := true }
def FnHighOrderUptoSaid : Prop := fnHighOrderUptoRow.holds Try.pinned (OpenSpec.upto fnHighOrderSpec)

/-- 'laws.FnHighStep', WHERE WHAT IT READS IS OF BULK AT MOST 1048576: true; the input reads as it did. -/
def fnHighStepUptoRow : OpenClaim := { program := "ytdjjkfhdgnlkeaa", sum := "8136a24f68e0b9267e9726df15657eeaec4eb52c33078be9fb7600bd23f7c434", func := "loop.example/disclosurecontrol/laws.FnHighStep", spec := "fnHighStep", unfollowed := true, recurses := true, apart := false, narrowed := true }
def FnHighStepUptoSaid : Prop := fnHighStepUptoRow.holds Try.pinned (OpenSpec.upto fnHighStepSpec)

end Rows
end Go.Proofs.Ytdjjkfhdgnlkeaa
