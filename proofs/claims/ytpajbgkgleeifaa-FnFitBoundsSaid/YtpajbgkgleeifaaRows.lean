/-
  No cell of these rows narrows 'for every input' (looked for: loops, veiled, ifaces, maps, wideKeys, modest, calm, conditions, laid).
  DERIVED. THE GIVEN ROWS OF THIS SEAT. 10 by the template 'for every input the law returns true; each argument reads behind the call as it read before'; 0 by the template 'total and deterministic' (their statements: YtpajbgkgleeifaaTotals.lean).
  GIVEN WITH THE SEED: the statements are not yours to turn. If you find one false, say at which input.
  Laid BY PROGRAM, IN A SANDBOX (cutbox-rows.mjs): the forced cells as the released guide's own fill.sh prints them over the translation 2fbde6655d848a65… (all of the seat's roots in one cut). By AI agents, Wed Nov 11 2026. No macro, syntax, notation, axiom, sorry.
-/
import Derived.Test.YtpajbgkgleeifaaChecked
import GoSem.Claim
import GoSem.ClaimJoined
import GoSem.ClaimMapViews
import Derived.JoinedTies
import Derived.KernelRfl
namespace Go.Proofs.Ytpajbgkgleeifaa
/- THE CELL 'sum', in the pinned program and in every row, IS THE sha256 OF THE DUMP (.gsa) THAT YtpajbgkgleeifaaProg.lean LOADS. Nothing in Lean hashes anything: it is a label: what it is worth is what the hold of that sum in a sandbox is worth. -/
noncomputable def Try.pinned : Pinned := { name := "ytpajbgkgleeifaa", sum := "2fbde6655d848a65ab671bb20c1ba476d3165799a5b2abfb05f5325e88569590", checked := Try.checked }
namespace Rows
def none {H : Type} : Left H := { results := [], args := [] }

/-- 'laws.FnFit': WHATEVER THE INPUT: true; the input reads as it did. -/
def fnFitSpec : ChangeSpec := { name := "fnFit", fn := fun _ => fun
  | [d] => { results := [.lit (.bool true)], args := [d] }
  | _ => none }
def fnFitRow : OpenClaim := { program := "ytpajbgkgleeifaa", sum := "2fbde6655d848a65ab671bb20c1ba476d3165799a5b2abfb05f5325e88569590", func := "loop.example/disclosurecontrol/laws.FnFit", spec := "fnFit", unfollowed := true, recurses := true, apart := false }
def FnFitSaid : Prop := fnFitRow.holds Try.pinned (OpenSpec.ofChange fnFitSpec)

/-- ITS FALSE NEIGHBOUR: 'it returns false'. Refute it at one input. -/
def fnFitWrong : ChangeSpec := { name := "fnFit", fn := fun _ => fun
  | [d] => { results := [.lit (.bool false)], args := [d] }
  | _ => none }
def FnFitWrongFalsely : Prop := fnFitRow.holds Try.pinned (OpenSpec.ofChange fnFitWrong)

/-- 'laws.FnFitBounds': WHATEVER THE INPUT: true; the input reads as it did. -/
def fnFitBoundsSpec : ChangeSpec := { name := "fnFitBounds", fn := fun _ => fun
  | [d1, d2] => { results := [.lit (.bool true)], args := [d1, d2] }
  | _ => none }
def fnFitBoundsRow : OpenClaim := { program := "ytpajbgkgleeifaa", sum := "2fbde6655d848a65ab671bb20c1ba476d3165799a5b2abfb05f5325e88569590", func := "loop.example/disclosurecontrol/laws.FnFitBounds", spec := "fnFitBounds", unfollowed := true, recurses := true, apart := false }
def FnFitBoundsSaid : Prop := fnFitBoundsRow.holds Try.pinned (OpenSpec.ofChange fnFitBoundsSpec)

/-- ITS FALSE NEIGHBOUR: 'it returns false'. Refute it at one input. -/
def fnFitBoundsWrong : ChangeSpec := { name := "fnFitBounds", fn := fun _ => fun
  | [d1, d2] => { results := [.lit (.bool false)], args := [d1, d2] }
  | _ => none }
def FnFitBoundsWrongFalsely : Prop := fnFitBoundsRow.holds Try.pinned (OpenSpec.ofChange fnFitBoundsWrong)

/-- 'laws.FnFitSame': WHATEVER THE INPUT: true; the input reads as it did. -/
def fnFitSameSpec : ChangeSpec := { name := "fnFitSame", fn := fun _ => fun
  | [d1, d2] => { results := [.lit (.bool true)], args := [d1, d2] }
  | _ => none }
def fnFitSameRow : OpenClaim := { program := "ytpajbgkgleeifaa", sum := "2fbde6655d848a65ab671bb20c1ba476d3165799a5b2abfb05f5325e88569590", func := "loop.example/disclosurecontrol/laws.FnFitSame", spec := "fnFitSame", unfollowed := true, recurses := true, apart := false }
def FnFitSameSaid : Prop := fnFitSameRow.holds Try.pinned (OpenSpec.ofChange fnFitSameSpec)

/-- ITS FALSE NEIGHBOUR: 'it returns false'. Refute it at one input. -/
def fnFitSameWrong : ChangeSpec := { name := "fnFitSame", fn := fun _ => fun
  | [d1, d2] => { results := [.lit (.bool false)], args := [d1, d2] }
  | _ => none }
def FnFitSameWrongFalsely : Prop := fnFitSameRow.holds Try.pinned (OpenSpec.ofChange fnFitSameWrong)

/-- 'laws.FnHighAll': WHATEVER THE INPUT: true; the input reads as it did. -/
def fnHighAllSpec : ChangeSpec := { name := "fnHighAll", fn := fun _ => fun
  | [d] => { results := [.lit (.bool true)], args := [d] }
  | _ => none }
def fnHighAllRow : OpenClaim := { program := "ytpajbgkgleeifaa", sum := "2fbde6655d848a65ab671bb20c1ba476d3165799a5b2abfb05f5325e88569590", func := "loop.example/disclosurecontrol/laws.FnHighAll", spec := "fnHighAll", unfollowed := true, recurses := true, apart := false }
def FnHighAllSaid : Prop := fnHighAllRow.holds Try.pinned (OpenSpec.ofChange fnHighAllSpec)

/-- ITS FALSE NEIGHBOUR: 'it returns false'. Refute it at one input. -/
def fnHighAllWrong : ChangeSpec := { name := "fnHighAll", fn := fun _ => fun
  | [d] => { results := [.lit (.bool false)], args := [d] }
  | _ => none }
def FnHighAllWrongFalsely : Prop := fnHighAllRow.holds Try.pinned (OpenSpec.ofChange fnHighAllWrong)

/-- 'laws.FnLowAll': WHATEVER THE INPUT: true; the input reads as it did. -/
def fnLowAllSpec : ChangeSpec := { name := "fnLowAll", fn := fun _ => fun
  | [d] => { results := [.lit (.bool true)], args := [d] }
  | _ => none }
def fnLowAllRow : OpenClaim := { program := "ytpajbgkgleeifaa", sum := "2fbde6655d848a65ab671bb20c1ba476d3165799a5b2abfb05f5325e88569590", func := "loop.example/disclosurecontrol/laws.FnLowAll", spec := "fnLowAll", unfollowed := true, recurses := true, apart := false }
def FnLowAllSaid : Prop := fnLowAllRow.holds Try.pinned (OpenSpec.ofChange fnLowAllSpec)

/-- ITS FALSE NEIGHBOUR: 'it returns false'. Refute it at one input. -/
def fnLowAllWrong : ChangeSpec := { name := "fnLowAll", fn := fun _ => fun
  | [d] => { results := [.lit (.bool false)], args := [d] }
  | _ => none }
def FnLowAllWrongFalsely : Prop := fnLowAllRow.holds Try.pinned (OpenSpec.ofChange fnLowAllWrong)

/-- 'laws.FnHighMore': WHATEVER THE INPUT: true; the input reads as it did. -/
def fnHighMoreSpec : ChangeSpec := { name := "fnHighMore", fn := fun _ => fun
  | [d1, d2] => { results := [.lit (.bool true)], args := [d1, d2] }
  | _ => none }
def fnHighMoreRow : OpenClaim := { program := "ytpajbgkgleeifaa", sum := "2fbde6655d848a65ab671bb20c1ba476d3165799a5b2abfb05f5325e88569590", func := "loop.example/disclosurecontrol/laws.FnHighMore", spec := "fnHighMore", unfollowed := true, recurses := true, apart := false }
def FnHighMoreSaid : Prop := fnHighMoreRow.holds Try.pinned (OpenSpec.ofChange fnHighMoreSpec)

/-- ITS FALSE NEIGHBOUR: 'it returns false'. Refute it at one input. -/
def fnHighMoreWrong : ChangeSpec := { name := "fnHighMore", fn := fun _ => fun
  | [d1, d2] => { results := [.lit (.bool false)], args := [d1, d2] }
  | _ => none }
def FnHighMoreWrongFalsely : Prop := fnHighMoreRow.holds Try.pinned (OpenSpec.ofChange fnHighMoreWrong)

/-- 'laws.FnHighTwo': WHATEVER THE INPUT: true; the input reads as it did. -/
def fnHighTwoSpec : ChangeSpec := { name := "fnHighTwo", fn := fun _ => fun
  | [d] => { results := [.lit (.bool true)], args := [d] }
  | _ => none }
def fnHighTwoRow : OpenClaim := { program := "ytpajbgkgleeifaa", sum := "2fbde6655d848a65ab671bb20c1ba476d3165799a5b2abfb05f5325e88569590", func := "loop.example/disclosurecontrol/laws.FnHighTwo", spec := "fnHighTwo", unfollowed := true, recurses := true, apart := false }
def FnHighTwoSaid : Prop := fnHighTwoRow.holds Try.pinned (OpenSpec.ofChange fnHighTwoSpec)

/-- ITS FALSE NEIGHBOUR: 'it returns false'. Refute it at one input. -/
def fnHighTwoWrong : ChangeSpec := { name := "fnHighTwo", fn := fun _ => fun
  | [d] => { results := [.lit (.bool false)], args := [d] }
  | _ => none }
def FnHighTwoWrongFalsely : Prop := fnHighTwoRow.holds Try.pinned (OpenSpec.ofChange fnHighTwoWrong)

/-- 'laws.FnHighOne': WHATEVER THE INPUT: true; the input reads as it did. -/
def fnHighOneSpec : ChangeSpec := { name := "fnHighOne", fn := fun _ => fun
  | [d] => { results := [.lit (.bool true)], args := [d] }
  | _ => none }
def fnHighOneRow : OpenClaim := { program := "ytpajbgkgleeifaa", sum := "2fbde6655d848a65ab671bb20c1ba476d3165799a5b2abfb05f5325e88569590", func := "loop.example/disclosurecontrol/laws.FnHighOne", spec := "fnHighOne", unfollowed := true, recurses := true, apart := false }
def FnHighOneSaid : Prop := fnHighOneRow.holds Try.pinned (OpenSpec.ofChange fnHighOneSpec)

/-- ITS FALSE NEIGHBOUR: 'it returns false'. Refute it at one input. -/
def fnHighOneWrong : ChangeSpec := { name := "fnHighOne", fn := fun _ => fun
  | [d] => { results := [.lit (.bool false)], args := [d] }
  | _ => none }
def FnHighOneWrongFalsely : Prop := fnHighOneRow.holds Try.pinned (OpenSpec.ofChange fnHighOneWrong)

/-- 'laws.FnHighPair': WHATEVER THE INPUT: true; the input reads as it did. -/
def fnHighPairSpec : ChangeSpec := { name := "fnHighPair", fn := fun _ => fun
  | [d] => { results := [.lit (.bool true)], args := [d] }
  | _ => none }
def fnHighPairRow : OpenClaim := { program := "ytpajbgkgleeifaa", sum := "2fbde6655d848a65ab671bb20c1ba476d3165799a5b2abfb05f5325e88569590", func := "loop.example/disclosurecontrol/laws.FnHighPair", spec := "fnHighPair", unfollowed := true, recurses := true, apart := false }
def FnHighPairSaid : Prop := fnHighPairRow.holds Try.pinned (OpenSpec.ofChange fnHighPairSpec)

/-- ITS FALSE NEIGHBOUR: 'it returns false'. Refute it at one input. -/
def fnHighPairWrong : ChangeSpec := { name := "fnHighPair", fn := fun _ => fun
  | [d] => { results := [.lit (.bool false)], args := [d] }
  | _ => none }
def FnHighPairWrongFalsely : Prop := fnHighPairRow.holds Try.pinned (OpenSpec.ofChange fnHighPairWrong)

/-- 'laws.FnHighRow': WHATEVER THE INPUT: true; the input reads as it did. -/
def fnHighRowSpec : ChangeSpec := { name := "fnHighRow", fn := fun _ => fun
  | [d] => { results := [.lit (.bool true)], args := [d] }
  | _ => none }
def fnHighRowRow : OpenClaim := { program := "ytpajbgkgleeifaa", sum := "2fbde6655d848a65ab671bb20c1ba476d3165799a5b2abfb05f5325e88569590", func := "loop.example/disclosurecontrol/laws.FnHighRow", spec := "fnHighRow", unfollowed := true, recurses := true, apart := false }
def FnHighRowSaid : Prop := fnHighRowRow.holds Try.pinned (OpenSpec.ofChange fnHighRowSpec)

/-- ITS FALSE NEIGHBOUR: 'it returns false'. Refute it at one input. -/
def fnHighRowWrong : ChangeSpec := { name := "fnHighRow", fn := fun _ => fun
  | [d] => { results := [.lit (.bool false)], args := [d] }
  | _ => none }
def FnHighRowWrongFalsely : Prop := fnHighRowRow.holds Try.pinned (OpenSpec.ofChange fnHighRowWrong)

/- THE SECOND FORM. 'bulk': how many values and letters a reading holds, each counted each time it is reached (what is shared counts as often as it is met; a slice's spare places count too). A statement '..UptoSaid' is the law's where the arguments, and the package variables that the reading takes, are together of bulk at most 1048576: NARROWER than '..Said'. Prove '..Said' where nothing that the law and all that it calls make is longer than what came in: it says more and counts as full. Else prove '..UptoSaid'. A law counts once. -/
mutual
def uptoBulk {H : Type} : DataW H → Nat
  | .lit (.string bytes) => bytes.length + 1
  | .lit _ => 1
  | .nil => 1
  | .ptr d => uptoBulk d + 1
  | .slice elems spare => uptoBulkAll elems + uptoBulkAll spare + 1
  | .agg parts => uptoBulkAll parts + 1
  | .iface _ d => uptoBulk d + 1
  | .map entries => uptoBulkEntries entries + 1
  | .held _ => 1
def uptoBulkAll {H : Type} : List (DataW H) → Nat
  | [] => 0
  | d :: r => uptoBulk d + uptoBulkAll r
def uptoBulkEntries {H : Type} : List (Lit × DataW H) → Nat
  | [] => 0
  | x :: r => uptoBulkEntry x + uptoBulkEntries r
def uptoBulkEntry {H : Type} : Lit × DataW H → Nat
  | (.string bytes, d) => bytes.length + uptoBulk d + 1
  | (_, d) => uptoBulk d + 1
 end
def uptoSmall : (H : Type) → List (DataW H) → Bool := fun _ ds => decide (uptoBulkAll ds ≤ 1048576)
def OpenSpec.upto (s : _root_.Go.ChangeSpec) : _root_.Go.OpenSpec := { _root_.Go.OpenSpec.ofChange s with cond := some uptoSmall }

/-- 'laws.FnFit', WHERE WHAT IT READS IS OF BULK AT MOST 1048576: true; the input reads as it did. -/
def fnFitUptoRow : OpenClaim := { program := "ytpajbgkgleeifaa", sum := "2fbde6655d848a65ab671bb20c1ba476d3165799a5b2abfb05f5325e88569590", func := "loop.example/disclosurecontrol/laws.FnFit", spec := "fnFit", unfollowed := true, recurses := true, apart := false, narrowed := true }
def FnFitUptoSaid : Prop := fnFitUptoRow.holds Try.pinned (OpenSpec.upto fnFitSpec)

/-- 'laws.FnFitBounds', WHERE WHAT IT READS IS OF BULK AT MOST 1048576: true; the input reads as it did. -/
def fnFitBoundsUptoRow : OpenClaim := { program := "ytpajbgkgleeifaa", sum := "2fbde6655d848a65ab671bb20c1ba476d3165799a5b2abfb05f5325e88569590", func := "loop.example/disclosurecontrol/laws.FnFitBounds", spec := "fnFitBounds", unfollowed := true, recurses := true, apart := false, narrowed := true }
def FnFitBoundsUptoSaid : Prop := fnFitBoundsUptoRow.holds Try.pinned (OpenSpec.upto fnFitBoundsSpec)

/-- 'laws.FnFitSame', WHERE WHAT IT READS IS OF BULK AT MOST 1048576: true; the input reads as it did. -/
def fnFitSameUptoRow : OpenClaim := { program := "ytpajbgkgleeifaa", sum := "2fbde6655d848a65ab671bb20c1ba476d3165799a5b2abfb05f5325e88569590", func := "loop.example/disclosurecontrol/laws.FnFitSame", spec := "fnFitSame", unfollowed := true, recurses := true, apart := false, narrowed := true }
def FnFitSameUptoSaid : Prop := fnFitSameUptoRow.holds Try.pinned (OpenSpec.upto fnFitSameSpec)

/-- 'laws.FnHighAll', WHERE WHAT IT READS IS OF BULK AT MOST 1048576: true; the input reads as it did. -/
def fnHighAllUptoRow : OpenClaim := { program := "ytpajbgkgleeifaa", sum := "2fbde6655d848a65ab671bb20c1ba476d3165799a5b2abfb05f5325e88569590", func := "loop.example/disclosurecontrol/laws.FnHighAll", spec := "fnHighAll", unfollowed := true, recurses := true, apart := false, narrowed := true }
def FnHighAllUptoSaid : Prop := fnHighAllUptoRow.holds Try.pinned (OpenSpec.upto fnHighAllSpec)

/-- 'laws.FnLowAll', WHERE WHAT IT READS IS OF BULK AT MOST 1048576: true; the input reads as it did. -/
def fnLowAllUptoRow : OpenClaim := { program := "ytpajbgkgleeifaa", sum := "2fbde6655d848a65ab671bb20c1ba476d3165799a5b2abfb05f5325e88569590", func := "loop.example/disclosurecontrol/laws.FnLowAll", spec := "fnLowAll", unfollowed := true, recurses := true, apart := false, narrowed := true }
def FnLowAllUptoSaid : Prop := fnLowAllUptoRow.holds Try.pinned (OpenSpec.upto fnLowAllSpec)

/-- 'laws.FnHighMore', WHERE WHAT IT READS IS OF BULK AT MOST 1048576: true; the input reads as it did. -/
def fnHighMoreUptoRow : OpenClaim := { program := "ytpajbgkgleeifaa", sum := "2fbde6655d848a65ab671bb20c1ba476d3165799a5b2abfb05f5325e88569590", func := "loop.example/disclosurecontrol/laws.FnHighMore", spec := "fnHighMore", unfollowed := true, recurses := true, apart := false, narrowed := true }
def FnHighMoreUptoSaid : Prop := fnHighMoreUptoRow.holds Try.pinned (OpenSpec.upto fnHighMoreSpec)

/-- 'laws.FnHighTwo', WHERE WHAT IT READS IS OF BULK AT MOST 1048576: true; the input reads as it did. -/
def fnHighTwoUptoRow : OpenClaim := { program := "ytpajbgkgleeifaa", sum := "2fbde6655d848a65ab671bb20c1ba476d3165799a5b2abfb05f5325e88569590", func := "loop.example/disclosurecontrol/laws.FnHighTwo", spec := "fnHighTwo", unfollowed := true, recurses := true, apart := false, narrowed := true }
def FnHighTwoUptoSaid : Prop := fnHighTwoUptoRow.holds Try.pinned (OpenSpec.upto fnHighTwoSpec)

/-- 'laws.FnHighOne', WHERE WHAT IT READS IS OF BULK AT MOST 1048576: true; the input reads as it did. -/
def fnHighOneUptoRow : OpenClaim := { program := "ytpajbgkgleeifaa", sum := "2fbde6655d848a65ab671bb20c1ba476d3165799a5b2abfb05f5325e88569590", func := "loop.example/disclosurecontrol/laws.FnHighOne", spec := "fnHighOne", unfollowed := true, recurses := true, apart := false, narrowed := true }
def FnHighOneUptoSaid : Prop := fnHighOneUptoRow.holds Try.pinned (OpenSpec.upto fnHighOneSpec)

/-- 'laws.FnHighPair', WHERE WHAT IT READS IS OF BULK AT MOST 1048576: true; the input reads as it did. -/
def fnHighPairUptoRow : OpenClaim := { program := "ytpajbgkgleeifaa", sum := "2fbde6655d848a65ab671bb20c1ba476d3165799a5b2abfb05f5325e88569590", func := "loop.example/disclosurecontrol/laws.FnHighPair", spec := "fnHighPair", unfollowed := true, recurses := true, apart := false, narrowed := true }
def FnHighPairUptoSaid : Prop := fnHighPairUptoRow.holds Try.pinned (OpenSpec.upto fnHighPairSpec)

/-- 'laws.FnHighRow', WHERE WHAT IT READS IS OF BULK AT MOST 1048576: true; the input reads as it did. -/
def fnHighRowUptoRow : OpenClaim := { program := "ytpajbgkgleeifaa", sum := "2fbde6655d848a65ab671bb20c1ba476d3165799a5b2abfb05f5325e88569590", func := "loop.example/disclosurecontrol/laws.FnHighRow", spec := "fnHighRow", unfollowed := true, recurses := true, apart := false, narrowed := true }
def FnHighRowUptoSaid : Prop := fnHighRowUptoRow.holds Try.pinned (OpenSpec.upto fnHighRowSpec)

end Rows
end Go.Proofs.Ytpajbgkgleeifaa
