/-
  No cell of these rows narrows 'for every input' (looked for: loops, veiled, ifaces, maps, wideKeys, modest, calm, conditions, laid).
  DERIVED. THE GIVEN ROWS OF THIS SEAT. 11 by the template 'for every input the law returns true; each argument reads behind the call as it read before'; 0 by the template 'total and deterministic' (their statements: YtbbgakbobefplaaTotals.lean).
  GIVEN WITH THE SEED: the statements are not yours to turn. If you find one false, say at which input.
  Laid BY PROGRAM, IN A SANDBOX (cutbox-rows.mjs): the forced cells as the released guide's own fill.sh prints them over the translation 2d6fc5e6c2416fd4… (all of the seat's roots in one cut). By AI agents, Wed Nov 11 2026. No macro, syntax, notation, axiom, sorry.
-/
import Derived.Test.YtbbgakbobefplaaChecked
import GoSem.Claim
import GoSem.ClaimJoined
import GoSem.ClaimMapViews
import Derived.JoinedTies
import Derived.KernelRfl
namespace Go.Proofs.Ytbbgakbobefplaa
/- THE CELL 'sum', in the pinned program and in every row, IS THE sha256 OF THE DUMP (.gsa) THAT YtbbgakbobefplaaProg.lean LOADS. Nothing in Lean hashes anything: it is a label: what it is worth is what the hold of that sum in a sandbox is worth. -/
noncomputable def Try.pinned : Pinned := { name := "ytbbgakbobefplaa", sum := "2d6fc5e6c2416fd42f5fcb40824dd0365af1e68b35779489406026773fb6557c", checked := Try.checked }
namespace Rows
def none {H : Type} : Left H := { results := [], args := [] }

/-- 'laws.FnRecodePeople': WHATEVER THE INPUT: true; the input reads as it did. -/
def fnRecodePeopleSpec : ChangeSpec := { name := "fnRecodePeople", fn := fun _ => fun
  | [d] => { results := [.lit (.bool true)], args := [d] }
  | _ => none }
def fnRecodePeopleRow : OpenClaim := { program := "ytbbgakbobefplaa", sum := "2d6fc5e6c2416fd42f5fcb40824dd0365af1e68b35779489406026773fb6557c", func := "loop.example/disclosurecontrol/laws.FnRecodePeople", spec := "fnRecodePeople", plainKeys := false, apart := false }
def FnRecodePeopleSaid : Prop := fnRecodePeopleRow.holds Try.pinned (OpenSpec.ofChange fnRecodePeopleSpec)

/-- ITS FALSE NEIGHBOUR: 'it returns false'. Refute it at one input. -/
def fnRecodePeopleWrong : ChangeSpec := { name := "fnRecodePeople", fn := fun _ => fun
  | [d] => { results := [.lit (.bool false)], args := [d] }
  | _ => none }
def FnRecodePeopleWrongFalsely : Prop := fnRecodePeopleRow.holds Try.pinned (OpenSpec.ofChange fnRecodePeopleWrong)

/-- 'laws.FnRecodeNone': WHATEVER THE INPUT: true; the input reads as it did. -/
def fnRecodeNoneSpec : ChangeSpec := { name := "fnRecodeNone", fn := fun _ => fun
  | [d] => { results := [.lit (.bool true)], args := [d] }
  | _ => none }
def fnRecodeNoneRow : OpenClaim := { program := "ytbbgakbobefplaa", sum := "2d6fc5e6c2416fd42f5fcb40824dd0365af1e68b35779489406026773fb6557c", func := "loop.example/disclosurecontrol/laws.FnRecodeNone", spec := "fnRecodeNone", plainKeys := false, apart := false }
def FnRecodeNoneSaid : Prop := fnRecodeNoneRow.holds Try.pinned (OpenSpec.ofChange fnRecodeNoneSpec)

/-- ITS FALSE NEIGHBOUR: 'it returns false'. Refute it at one input. -/
def fnRecodeNoneWrong : ChangeSpec := { name := "fnRecodeNone", fn := fun _ => fun
  | [d] => { results := [.lit (.bool false)], args := [d] }
  | _ => none }
def FnRecodeNoneWrongFalsely : Prop := fnRecodeNoneRow.holds Try.pinned (OpenSpec.ofChange fnRecodeNoneWrong)

/-- 'laws.FnRecodeOnce': WHATEVER THE INPUT: true; the input reads as it did. -/
def fnRecodeOnceSpec : ChangeSpec := { name := "fnRecodeOnce", fn := fun _ => fun
  | [d] => { results := [.lit (.bool true)], args := [d] }
  | _ => none }
def fnRecodeOnceRow : OpenClaim := { program := "ytbbgakbobefplaa", sum := "2d6fc5e6c2416fd42f5fcb40824dd0365af1e68b35779489406026773fb6557c", func := "loop.example/disclosurecontrol/laws.FnRecodeOnce", spec := "fnRecodeOnce", plainKeys := false, apart := false }
def FnRecodeOnceSaid : Prop := fnRecodeOnceRow.holds Try.pinned (OpenSpec.ofChange fnRecodeOnceSpec)

/-- ITS FALSE NEIGHBOUR: 'it returns false'. Refute it at one input. -/
def fnRecodeOnceWrong : ChangeSpec := { name := "fnRecodeOnce", fn := fun _ => fun
  | [d] => { results := [.lit (.bool false)], args := [d] }
  | _ => none }
def FnRecodeOnceWrongFalsely : Prop := fnRecodeOnceRow.holds Try.pinned (OpenSpec.ofChange fnRecodeOnceWrong)

/-- 'laws.FnRecodePay': WHATEVER THE INPUT: true; the input reads as it did. -/
def fnRecodePaySpec : ChangeSpec := { name := "fnRecodePay", fn := fun _ => fun
  | [d] => { results := [.lit (.bool true)], args := [d] }
  | _ => none }
def fnRecodePayRow : OpenClaim := { program := "ytbbgakbobefplaa", sum := "2d6fc5e6c2416fd42f5fcb40824dd0365af1e68b35779489406026773fb6557c", func := "loop.example/disclosurecontrol/laws.FnRecodePay", spec := "fnRecodePay", plainKeys := false, apart := false }
def FnRecodePaySaid : Prop := fnRecodePayRow.holds Try.pinned (OpenSpec.ofChange fnRecodePaySpec)

/-- ITS FALSE NEIGHBOUR: 'it returns false'. Refute it at one input. -/
def fnRecodePayWrong : ChangeSpec := { name := "fnRecodePay", fn := fun _ => fun
  | [d] => { results := [.lit (.bool false)], args := [d] }
  | _ => none }
def FnRecodePayWrongFalsely : Prop := fnRecodePayRow.holds Try.pinned (OpenSpec.ofChange fnRecodePayWrong)

/-- 'laws.FnGroupSize': WHATEVER THE INPUT: true; the input reads as it did. -/
def fnGroupSizeSpec : ChangeSpec := { name := "fnGroupSize", fn := fun _ => fun
  | [d] => { results := [.lit (.bool true)], args := [d] }
  | _ => none }
def fnGroupSizeRow : OpenClaim := { program := "ytbbgakbobefplaa", sum := "2d6fc5e6c2416fd42f5fcb40824dd0365af1e68b35779489406026773fb6557c", func := "loop.example/disclosurecontrol/laws.FnGroupSize", spec := "fnGroupSize", plainKeys := false, apart := false }
def FnGroupSizeSaid : Prop := fnGroupSizeRow.holds Try.pinned (OpenSpec.ofChange fnGroupSizeSpec)

/-- ITS FALSE NEIGHBOUR: 'it returns false'. Refute it at one input. -/
def fnGroupSizeWrong : ChangeSpec := { name := "fnGroupSize", fn := fun _ => fun
  | [d] => { results := [.lit (.bool false)], args := [d] }
  | _ => none }
def FnGroupSizeWrongFalsely : Prop := fnGroupSizeRow.holds Try.pinned (OpenSpec.ofChange fnGroupSizeWrong)

/-- 'laws.FnGroupSizeFiner': WHATEVER THE INPUT: true; the input reads as it did. -/
def fnGroupSizeFinerSpec : ChangeSpec := { name := "fnGroupSizeFiner", fn := fun _ => fun
  | [d] => { results := [.lit (.bool true)], args := [d] }
  | _ => none }
def fnGroupSizeFinerRow : OpenClaim := { program := "ytbbgakbobefplaa", sum := "2d6fc5e6c2416fd42f5fcb40824dd0365af1e68b35779489406026773fb6557c", func := "loop.example/disclosurecontrol/laws.FnGroupSizeFiner", spec := "fnGroupSizeFiner", plainKeys := false, apart := false }
def FnGroupSizeFinerSaid : Prop := fnGroupSizeFinerRow.holds Try.pinned (OpenSpec.ofChange fnGroupSizeFinerSpec)

/-- ITS FALSE NEIGHBOUR: 'it returns false'. Refute it at one input. -/
def fnGroupSizeFinerWrong : ChangeSpec := { name := "fnGroupSizeFiner", fn := fun _ => fun
  | [d] => { results := [.lit (.bool false)], args := [d] }
  | _ => none }
def FnGroupSizeFinerWrongFalsely : Prop := fnGroupSizeFinerRow.holds Try.pinned (OpenSpec.ofChange fnGroupSizeFinerWrong)

/-- 'laws.FnGroupSizeAdd': WHATEVER THE INPUT: true; the input reads as it did. -/
def fnGroupSizeAddSpec : ChangeSpec := { name := "fnGroupSizeAdd", fn := fun _ => fun
  | [d] => { results := [.lit (.bool true)], args := [d] }
  | _ => none }
def fnGroupSizeAddRow : OpenClaim := { program := "ytbbgakbobefplaa", sum := "2d6fc5e6c2416fd42f5fcb40824dd0365af1e68b35779489406026773fb6557c", func := "loop.example/disclosurecontrol/laws.FnGroupSizeAdd", spec := "fnGroupSizeAdd", plainKeys := false, apart := false }
def FnGroupSizeAddSaid : Prop := fnGroupSizeAddRow.holds Try.pinned (OpenSpec.ofChange fnGroupSizeAddSpec)

/-- ITS FALSE NEIGHBOUR: 'it returns false'. Refute it at one input. -/
def fnGroupSizeAddWrong : ChangeSpec := { name := "fnGroupSizeAdd", fn := fun _ => fun
  | [d] => { results := [.lit (.bool false)], args := [d] }
  | _ => none }
def FnGroupSizeAddWrongFalsely : Prop := fnGroupSizeAddRow.holds Try.pinned (OpenSpec.ofChange fnGroupSizeAddWrong)

/-- 'laws.FnGroupSizeSame': WHATEVER THE INPUT: true; the input reads as it did. -/
def fnGroupSizeSameSpec : ChangeSpec := { name := "fnGroupSizeSame", fn := fun _ => fun
  | [d] => { results := [.lit (.bool true)], args := [d] }
  | _ => none }
def fnGroupSizeSameRow : OpenClaim := { program := "ytbbgakbobefplaa", sum := "2d6fc5e6c2416fd42f5fcb40824dd0365af1e68b35779489406026773fb6557c", func := "loop.example/disclosurecontrol/laws.FnGroupSizeSame", spec := "fnGroupSizeSame", plainKeys := false, apart := false }
def FnGroupSizeSameSaid : Prop := fnGroupSizeSameRow.holds Try.pinned (OpenSpec.ofChange fnGroupSizeSameSpec)

/-- ITS FALSE NEIGHBOUR: 'it returns false'. Refute it at one input. -/
def fnGroupSizeSameWrong : ChangeSpec := { name := "fnGroupSizeSame", fn := fun _ => fun
  | [d] => { results := [.lit (.bool false)], args := [d] }
  | _ => none }
def FnGroupSizeSameWrongFalsely : Prop := fnGroupSizeSameRow.holds Try.pinned (OpenSpec.ofChange fnGroupSizeSameWrong)

/-- 'laws.FnGroupLeast': WHATEVER THE INPUT: true; the input reads as it did. -/
def fnGroupLeastSpec : ChangeSpec := { name := "fnGroupLeast", fn := fun _ => fun
  | [d] => { results := [.lit (.bool true)], args := [d] }
  | _ => none }
def fnGroupLeastRow : OpenClaim := { program := "ytbbgakbobefplaa", sum := "2d6fc5e6c2416fd42f5fcb40824dd0365af1e68b35779489406026773fb6557c", func := "loop.example/disclosurecontrol/laws.FnGroupLeast", spec := "fnGroupLeast", plainKeys := false, apart := false }
def FnGroupLeastSaid : Prop := fnGroupLeastRow.holds Try.pinned (OpenSpec.ofChange fnGroupLeastSpec)

/-- ITS FALSE NEIGHBOUR: 'it returns false'. Refute it at one input. -/
def fnGroupLeastWrong : ChangeSpec := { name := "fnGroupLeast", fn := fun _ => fun
  | [d] => { results := [.lit (.bool false)], args := [d] }
  | _ => none }
def FnGroupLeastWrongFalsely : Prop := fnGroupLeastRow.holds Try.pinned (OpenSpec.ofChange fnGroupLeastWrong)

/-- 'laws.FnGroupLeastAdd': WHATEVER THE INPUT: true; the input reads as it did. -/
def fnGroupLeastAddSpec : ChangeSpec := { name := "fnGroupLeastAdd", fn := fun _ => fun
  | [d1, d2] => { results := [.lit (.bool true)], args := [d1, d2] }
  | _ => none }
def fnGroupLeastAddRow : OpenClaim := { program := "ytbbgakbobefplaa", sum := "2d6fc5e6c2416fd42f5fcb40824dd0365af1e68b35779489406026773fb6557c", func := "loop.example/disclosurecontrol/laws.FnGroupLeastAdd", spec := "fnGroupLeastAdd", plainKeys := false, apart := false }
def FnGroupLeastAddSaid : Prop := fnGroupLeastAddRow.holds Try.pinned (OpenSpec.ofChange fnGroupLeastAddSpec)

/-- ITS FALSE NEIGHBOUR: 'it returns false'. Refute it at one input. -/
def fnGroupLeastAddWrong : ChangeSpec := { name := "fnGroupLeastAdd", fn := fun _ => fun
  | [d1, d2] => { results := [.lit (.bool false)], args := [d1, d2] }
  | _ => none }
def FnGroupLeastAddWrongFalsely : Prop := fnGroupLeastAddRow.holds Try.pinned (OpenSpec.ofChange fnGroupLeastAddWrong)

/-- 'laws.FnGroupOrder': WHATEVER THE INPUT: true; the input reads as it did. -/
def fnGroupOrderSpec : ChangeSpec := { name := "fnGroupOrder", fn := fun _ => fun
  | [d1, d2] => { results := [.lit (.bool true)], args := [d1, d2] }
  | _ => none }
def fnGroupOrderRow : OpenClaim := { program := "ytbbgakbobefplaa", sum := "2d6fc5e6c2416fd42f5fcb40824dd0365af1e68b35779489406026773fb6557c", func := "loop.example/disclosurecontrol/laws.FnGroupOrder", spec := "fnGroupOrder", plainKeys := false, apart := false }
def FnGroupOrderSaid : Prop := fnGroupOrderRow.holds Try.pinned (OpenSpec.ofChange fnGroupOrderSpec)

/-- ITS FALSE NEIGHBOUR: 'it returns false'. Refute it at one input. -/
def fnGroupOrderWrong : ChangeSpec := { name := "fnGroupOrder", fn := fun _ => fun
  | [d1, d2] => { results := [.lit (.bool false)], args := [d1, d2] }
  | _ => none }
def FnGroupOrderWrongFalsely : Prop := fnGroupOrderRow.holds Try.pinned (OpenSpec.ofChange fnGroupOrderWrong)

/- THE SECOND FORM. 'bulk': how many values and letters a reading holds, each counted each time it is reached (what is shared counts as often as it is met; a slice's spare places count too). A statement '..UptoSaid' is the law's where the arguments, and the package variables that the reading takes, are together of bulk at most 1048576: NARROWER than '..Said'. Prove '..Said' where nothing that the law and all that it calls make is longer than what came in: it says more and counts as full. Else prove '..UptoSaid'. A law counts once. -/
mutual
def uptoBulk {H : Type} : DataW H → Nat
  | .lit (.string bytes) => bytes.length + 1
  | .lit _ => 1
  | .nil => 1
  | .ptr d => uptoBulk d + 1
  | .slice elems spare => uptoBulkAll elems + uptoBulkAll spare + 1
  | .agg parts => uptoBulkAll parts + 1
  | .iface _ d => uptoBulk d + 1
  | .map entries => uptoBulkEntries entries + 1
  | .held _ => 1
def uptoBulkAll {H : Type} : List (DataW H) → Nat
  | [] => 0
  | d :: r => uptoBulk d + uptoBulkAll r
def uptoBulkEntries {H : Type} : List (Lit × DataW H) → Nat
  | [] => 0
  | x :: r => uptoBulkEntry x + uptoBulkEntries r
def uptoBulkEntry {H : Type} : Lit × DataW H → Nat
  | (.string bytes, d) => bytes.length + uptoBulk d + 1
  | (_, d) => uptoBulk d + 1
 end
def uptoSmall : (H : Type) → List (DataW H) → Bool := fun _ ds => decide (uptoBulkAll ds ≤ 1048576)
def OpenSpec.upto (s : _root_.Go.ChangeSpec) : _root_.Go.OpenSpec := { _root_.Go.OpenSpec.ofChange s with cond := some uptoSmall }

/-- 'laws.FnRecodePeople', WHERE WHAT IT READS IS OF BULK AT MOST 1048576: true; the input reads as it did. -/
def fnRecodePeopleUptoRow : OpenClaim := { program := "ytbbgakbobefplaa", sum := "2d6fc5e6c2416fd42f5fcb40824dd0365af1e68b35779489406026773fb6557c", func := "loop.example/disclosurecontrol/laws.FnRecodePeople", spec := "fnRecodePeople", plainKeys := false, apart := false, narrowed := true }
def FnRecodePeopleUptoSaid : Prop := fnRecodePeopleUptoRow.holds Try.pinned (OpenSpec.upto fnRecodePeopleSpec)

/-- 'laws.FnRecodeNone', WHERE WHAT IT READS IS OF BULK AT MOST 1048576: true; the input reads as it did. -/
def fnRecodeNoneUptoRow : OpenClaim := { program := "ytbbgakbobefplaa", sum := "2d6fc5e6c2416fd42f5fcb40824dd0365af1e68b35779489406026773fb6557c", func := "loop.example/disclosurecontrol/laws.FnRecodeNone", spec := "fnRecodeNone", plainKeys := false, apart := false, narrowed := true }
def FnRecodeNoneUptoSaid : Prop := fnRecodeNoneUptoRow.holds Try.pinned (OpenSpec.upto fnRecodeNoneSpec)

/-- 'laws.FnRecodeOnce', WHERE WHAT IT READS IS OF BULK AT MOST 1048576: true; the input reads as it did. -/
def fnRecodeOnceUptoRow : OpenClaim := { program := "ytbbgakbobefplaa", sum := "2d6fc5e6c2416fd42f5fcb40824dd0365af1e68b35779489406026773fb6557c", func := "loop.example/disclosurecontrol/laws.FnRecodeOnce", spec := "fnRecodeOnce", plainKeys := false, apart := false, narrowed := true }
def FnRecodeOnceUptoSaid : Prop := fnRecodeOnceUptoRow.holds Try.pinned (OpenSpec.upto fnRecodeOnceSpec)

/-- 'laws.FnRecodePay', WHERE WHAT IT READS IS OF BULK AT MOST 1048576: true; the input reads as it did. -/
def fnRecodePayUptoRow : OpenClaim := { program := "ytbbgakbobefplaa", sum := "2d6fc5e6c2416fd42f5fcb40824dd0365af1e68b35779489406026773fb6557c", func := "loop.example/disclosurecontrol/laws.FnRecodePay", spec := "fnRecodePay", plainKeys := false, apart := false, narrowed := true }
def FnRecodePayUptoSaid : Prop := fnRecodePayUptoRow.holds Try.pinned (OpenSpec.upto fnRecodePaySpec)

/-- 'laws.FnGroupSize', WHERE WHAT IT READS IS OF BULK AT MOST 1048576: true; the input reads as it did. -/
def fnGroupSizeUptoRow : OpenClaim := { program := "ytbbgakbobefplaa", sum := "2d6fc5e6c2416fd42f5fcb40824dd0365af1e68b35779489406026773fb6557c", func := "loop.example/disclosurecontrol/laws.FnGroupSize", spec := "fnGroupSize", plainKeys := false, apart := false, narrowed := true }
def FnGroupSizeUptoSaid : Prop := fnGroupSizeUptoRow.holds Try.pinned (OpenSpec.upto fnGroupSizeSpec)

/-- 'laws.FnGroupSizeFiner', WHERE WHAT IT READS IS OF BULK AT MOST 1048576: true; the input reads as it did. -/
def fnGroupSizeFinerUptoRow : OpenClaim := { program := "ytbbgakbobefplaa", sum := "2d6fc5e6c2416fd42f5fcb40824dd0365af1e68b35779489406026773fb6557c", func := "loop.example/disclosurecontrol/laws.FnGroupSizeFiner", spec := "fnGroupSizeFiner", plainKeys := false, apart := false, narrowed := true }
def FnGroupSizeFinerUptoSaid : Prop := fnGroupSizeFinerUptoRow.holds Try.pinned (OpenSpec.upto fnGroupSizeFinerSpec)

/-- 'laws.FnGroupSizeAdd', WHERE WHAT IT READS IS OF BULK AT MOST 1048576: true; the input reads as it did. -/
def fnGroupSizeAddUptoRow : OpenClaim := { program := "ytbbgakbobefplaa", sum := "2d6fc5e6c2416fd42f5fcb40824dd0365af1e68b35779489406026773fb6557c", func := "loop.example/disclosurecontrol/laws.FnGroupSizeAdd", spec := "fnGroupSizeAdd", plainKeys := false, apart := false, narrowed := true }
def FnGroupSizeAddUptoSaid : Prop := fnGroupSizeAddUptoRow.holds Try.pinned (OpenSpec.upto fnGroupSizeAddSpec)

/-- 'laws.FnGroupSizeSame', WHERE WHAT IT READS IS OF BULK AT MOST 1048576: true; the input reads as it did. -/
def fnGroupSizeSameUptoRow : OpenClaim := { program := "ytbbgakbobefplaa", sum := "2d6fc5e6c2416fd42f5fcb40824dd0365af1e68b35779489406026773fb6557c", func := "loop.example/disclosurecontrol/laws.FnGroupSizeSame", spec := "fnGroupSizeSame", plainKeys := false, apart := false, narrowed := true }
def FnGroupSizeSameUptoSaid : Prop := fnGroupSizeSameUptoRow.holds Try.pinned (OpenSpec.upto fnGroupSizeSameSpec)

/-- 'laws.FnGroupLeast', WHERE WHAT IT READS IS OF BULK AT MOST 1048576: true; the input reads as it did. -/
def fnGroupLeastUptoRow : OpenClaim := { program := "ytbbgakbobefplaa", sum := "2d6fc5e6c2416fd42f5fcb40824dd0365af1e68b35779489406026773fb6557c", func := "loop.example/disclosurecontrol/laws.FnGroupLeast", spec := "fnGroupLeast", plainKeys := false, apart := false, narrowed := true }
def FnGroupLeastUptoSaid : Prop := fnGroupLeastUptoRow.holds Try.pinned (OpenSpec.upto fnGroupLeastSpec)

/-- 'laws.FnGroupLeastAdd', WHERE WHAT IT READS IS OF BULK AT MOST 1048576: true; the input reads as it did. -/
def fnGroupLeastAddUptoRow : OpenClaim := { program := "ytbbgakbobefplaa", sum := "2d6fc5e6c2416fd42f5fcb40824dd0365af1e68b35779489406026773fb6557c", func := "loop.example/disclosurecontrol/laws.FnGroupLeastAdd", spec := "fnGroupLeastAdd", plainKeys := false, apart := false, narrowed := true }
def FnGroupLeastAddUptoSaid : Prop := fnGroupLeastAddUptoRow.holds Try.pinned (OpenSpec.upto fnGroupLeastAddSpec)

/-- 'laws.FnGroupOrder', WHERE WHAT IT READS IS OF BULK AT MOST 1048576: true; the input reads as it did. -/
def fnGroupOrderUptoRow : OpenClaim := { program := "ytbbgakbobefplaa", sum := "2d6fc5e6c2416fd42f5fcb40824dd0365af1e68b35779489406026773fb6557c", func := "loop.example/disclosurecontrol/laws.FnGroupOrder", spec := "fnGroupOrder", plainKeys := false, apart := false, narrowed := true }
def FnGroupOrderUptoSaid : Prop := fnGroupOrderUptoRow.holds Try.pinned (OpenSpec.upto fnGroupOrderSpec)

end Rows
end Go.Proofs.Ytbbgakbobefplaa
