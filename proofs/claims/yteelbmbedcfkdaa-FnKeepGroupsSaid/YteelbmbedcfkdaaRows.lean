/-
  No cell of these rows narrows 'for every input' (looked for: loops, veiled, ifaces, maps, wideKeys, modest, calm, conditions, laid).
  DERIVED. THE GIVEN ROWS OF THIS SEAT. 11 by the template 'for every input the law returns true; each argument reads behind the call as it read before'; 0 by the template 'total and deterministic' (their statements: YteelbmbedcfkdaaTotals.lean).
  GIVEN WITH THE SEED: the statements are not yours to turn. If you find one false, say at which input.
  Laid BY PROGRAM, IN A SANDBOX (cutbox-rows.mjs): the forced cells as the released guide's own fill.sh prints them over the translation f12e0628f17d53f6… (all of the seat's roots in one cut). By AI agents, Wed Nov 11 2026. No macro, syntax, notation, axiom, sorry.
-/
import Derived.Test.YteelbmbedcfkdaaChecked
import GoSem.Claim
import GoSem.ClaimJoined
import GoSem.ClaimMapViews
import Derived.JoinedTies
import Derived.KernelRfl
namespace Go.Proofs.Yteelbmbedcfkdaa
/- THE CELL 'sum', in the pinned program and in every row, IS THE sha256 OF THE DUMP (.gsa) THAT YteelbmbedcfkdaaProg.lean LOADS. Nothing in Lean hashes anything: it is a label: what it is worth is what the hold of that sum in a sandbox is worth. -/
noncomputable def Try.pinned : Pinned := { name := "yteelbmbedcfkdaa", sum := "f12e0628f17d53f611d8e76d87afd5a833b90b68f0712c3087706350d142fbd1", checked := Try.checked }
namespace Rows
def none {H : Type} : Left H := { results := [], args := [] }

/-- 'laws.FnDrop': WHATEVER THE INPUT: true; the input reads as it did. -/
def fnDropSpec : ChangeSpec := { name := "fnDrop", fn := fun _ => fun
  | [d] => { results := [.lit (.bool true)], args := [d] }
  | _ => none }
def fnDropRow : OpenClaim := { program := "yteelbmbedcfkdaa", sum := "f12e0628f17d53f611d8e76d87afd5a833b90b68f0712c3087706350d142fbd1", func := "loop.example/disclosurecontrol/laws.FnDrop", spec := "fnDrop", plainKeys := false, apart := false }
def FnDropSaid : Prop := fnDropRow.holds Try.pinned (OpenSpec.ofChange fnDropSpec)

/-- ITS FALSE NEIGHBOUR: 'it returns false'. Refute it at one input. -/
def fnDropWrong : ChangeSpec := { name := "fnDrop", fn := fun _ => fun
  | [d] => { results := [.lit (.bool false)], args := [d] }
  | _ => none }
def FnDropWrongFalsely : Prop := fnDropRow.holds Try.pinned (OpenSpec.ofChange fnDropWrong)

/-- 'laws.FnDropCoarser': WHATEVER THE INPUT: true; the input reads as it did. -/
def fnDropCoarserSpec : ChangeSpec := { name := "fnDropCoarser", fn := fun _ => fun
  | [d] => { results := [.lit (.bool true)], args := [d] }
  | _ => none }
def fnDropCoarserRow : OpenClaim := { program := "yteelbmbedcfkdaa", sum := "f12e0628f17d53f611d8e76d87afd5a833b90b68f0712c3087706350d142fbd1", func := "loop.example/disclosurecontrol/laws.FnDropCoarser", spec := "fnDropCoarser", plainKeys := false, apart := false }
def FnDropCoarserSaid : Prop := fnDropCoarserRow.holds Try.pinned (OpenSpec.ofChange fnDropCoarserSpec)

/-- ITS FALSE NEIGHBOUR: 'it returns false'. Refute it at one input. -/
def fnDropCoarserWrong : ChangeSpec := { name := "fnDropCoarser", fn := fun _ => fun
  | [d] => { results := [.lit (.bool false)], args := [d] }
  | _ => none }
def FnDropCoarserWrongFalsely : Prop := fnDropCoarserRow.holds Try.pinned (OpenSpec.ofChange fnDropCoarserWrong)

/-- 'laws.FnAnonOk': WHATEVER THE INPUT: true; the input reads as it did. -/
def fnAnonOkSpec : ChangeSpec := { name := "fnAnonOk", fn := fun _ => fun
  | [d1, d2] => { results := [.lit (.bool true)], args := [d1, d2] }
  | _ => none }
def fnAnonOkRow : OpenClaim := { program := "yteelbmbedcfkdaa", sum := "f12e0628f17d53f611d8e76d87afd5a833b90b68f0712c3087706350d142fbd1", func := "loop.example/disclosurecontrol/laws.FnAnonOk", spec := "fnAnonOk", plainKeys := false, apart := false }
def FnAnonOkSaid : Prop := fnAnonOkRow.holds Try.pinned (OpenSpec.ofChange fnAnonOkSpec)

/-- ITS FALSE NEIGHBOUR: 'it returns false'. Refute it at one input. -/
def fnAnonOkWrong : ChangeSpec := { name := "fnAnonOk", fn := fun _ => fun
  | [d1, d2] => { results := [.lit (.bool false)], args := [d1, d2] }
  | _ => none }
def FnAnonOkWrongFalsely : Prop := fnAnonOkRow.holds Try.pinned (OpenSpec.ofChange fnAnonOkWrong)

/-- 'laws.FnKeep': WHATEVER THE INPUT: true; the input reads as it did. -/
def fnKeepSpec : ChangeSpec := { name := "fnKeep", fn := fun _ => fun
  | [d] => { results := [.lit (.bool true)], args := [d] }
  | _ => none }
def fnKeepRow : OpenClaim := { program := "yteelbmbedcfkdaa", sum := "f12e0628f17d53f611d8e76d87afd5a833b90b68f0712c3087706350d142fbd1", func := "loop.example/disclosurecontrol/laws.FnKeep", spec := "fnKeep", plainKeys := false, apart := false }
def FnKeepSaid : Prop := fnKeepRow.holds Try.pinned (OpenSpec.ofChange fnKeepSpec)

/-- ITS FALSE NEIGHBOUR: 'it returns false'. Refute it at one input. -/
def fnKeepWrong : ChangeSpec := { name := "fnKeep", fn := fun _ => fun
  | [d] => { results := [.lit (.bool false)], args := [d] }
  | _ => none }
def FnKeepWrongFalsely : Prop := fnKeepRow.holds Try.pinned (OpenSpec.ofChange fnKeepWrong)

/-- 'laws.FnKeepPeople': WHATEVER THE INPUT: true; the input reads as it did. -/
def fnKeepPeopleSpec : ChangeSpec := { name := "fnKeepPeople", fn := fun _ => fun
  | [d] => { results := [.lit (.bool true)], args := [d] }
  | _ => none }
def fnKeepPeopleRow : OpenClaim := { program := "yteelbmbedcfkdaa", sum := "f12e0628f17d53f611d8e76d87afd5a833b90b68f0712c3087706350d142fbd1", func := "loop.example/disclosurecontrol/laws.FnKeepPeople", spec := "fnKeepPeople", plainKeys := false, apart := false }
def FnKeepPeopleSaid : Prop := fnKeepPeopleRow.holds Try.pinned (OpenSpec.ofChange fnKeepPeopleSpec)

/-- ITS FALSE NEIGHBOUR: 'it returns false'. Refute it at one input. -/
def fnKeepPeopleWrong : ChangeSpec := { name := "fnKeepPeople", fn := fun _ => fun
  | [d] => { results := [.lit (.bool false)], args := [d] }
  | _ => none }
def FnKeepPeopleWrongFalsely : Prop := fnKeepPeopleRow.holds Try.pinned (OpenSpec.ofChange fnKeepPeopleWrong)

/-- 'laws.FnDropOrder': WHATEVER THE INPUT: true; the input reads as it did. -/
def fnDropOrderSpec : ChangeSpec := { name := "fnDropOrder", fn := fun _ => fun
  | [d1, d2] => { results := [.lit (.bool true)], args := [d1, d2] }
  | _ => none }
def fnDropOrderRow : OpenClaim := { program := "yteelbmbedcfkdaa", sum := "f12e0628f17d53f611d8e76d87afd5a833b90b68f0712c3087706350d142fbd1", func := "loop.example/disclosurecontrol/laws.FnDropOrder", spec := "fnDropOrder", plainKeys := false, apart := false }
def FnDropOrderSaid : Prop := fnDropOrderRow.holds Try.pinned (OpenSpec.ofChange fnDropOrderSpec)

/-- ITS FALSE NEIGHBOUR: 'it returns false'. Refute it at one input. -/
def fnDropOrderWrong : ChangeSpec := { name := "fnDropOrder", fn := fun _ => fun
  | [d1, d2] => { results := [.lit (.bool false)], args := [d1, d2] }
  | _ => none }
def FnDropOrderWrongFalsely : Prop := fnDropOrderRow.holds Try.pinned (OpenSpec.ofChange fnDropOrderWrong)

/-- 'laws.FnDropAll': WHATEVER THE INPUT: true; the input reads as it did. -/
def fnDropAllSpec : ChangeSpec := { name := "fnDropAll", fn := fun _ => fun
  | [d] => { results := [.lit (.bool true)], args := [d] }
  | _ => none }
def fnDropAllRow : OpenClaim := { program := "yteelbmbedcfkdaa", sum := "f12e0628f17d53f611d8e76d87afd5a833b90b68f0712c3087706350d142fbd1", func := "loop.example/disclosurecontrol/laws.FnDropAll", spec := "fnDropAll", plainKeys := false, apart := false }
def FnDropAllSaid : Prop := fnDropAllRow.holds Try.pinned (OpenSpec.ofChange fnDropAllSpec)

/-- ITS FALSE NEIGHBOUR: 'it returns false'. Refute it at one input. -/
def fnDropAllWrong : ChangeSpec := { name := "fnDropAll", fn := fun _ => fun
  | [d] => { results := [.lit (.bool false)], args := [d] }
  | _ => none }
def FnDropAllWrongFalsely : Prop := fnDropAllRow.holds Try.pinned (OpenSpec.ofChange fnDropAllWrong)

/-- 'laws.FnDropTwice': WHATEVER THE INPUT: true; the input reads as it did. -/
def fnDropTwiceSpec : ChangeSpec := { name := "fnDropTwice", fn := fun _ => fun
  | [d] => { results := [.lit (.bool true)], args := [d] }
  | _ => none }
def fnDropTwiceRow : OpenClaim := { program := "yteelbmbedcfkdaa", sum := "f12e0628f17d53f611d8e76d87afd5a833b90b68f0712c3087706350d142fbd1", func := "loop.example/disclosurecontrol/laws.FnDropTwice", spec := "fnDropTwice", plainKeys := false, apart := false }
def FnDropTwiceSaid : Prop := fnDropTwiceRow.holds Try.pinned (OpenSpec.ofChange fnDropTwiceSpec)

/-- ITS FALSE NEIGHBOUR: 'it returns false'. Refute it at one input. -/
def fnDropTwiceWrong : ChangeSpec := { name := "fnDropTwice", fn := fun _ => fun
  | [d] => { results := [.lit (.bool false)], args := [d] }
  | _ => none }
def FnDropTwiceWrongFalsely : Prop := fnDropTwiceRow.holds Try.pinned (OpenSpec.ofChange fnDropTwiceWrong)

/-- 'laws.FnKeepGroups': WHATEVER THE INPUT: true; the input reads as it did. -/
def fnKeepGroupsSpec : ChangeSpec := { name := "fnKeepGroups", fn := fun _ => fun
  | [d] => { results := [.lit (.bool true)], args := [d] }
  | _ => none }
def fnKeepGroupsRow : OpenClaim := { program := "yteelbmbedcfkdaa", sum := "f12e0628f17d53f611d8e76d87afd5a833b90b68f0712c3087706350d142fbd1", func := "loop.example/disclosurecontrol/laws.FnKeepGroups", spec := "fnKeepGroups", plainKeys := false, apart := false }
def FnKeepGroupsSaid : Prop := fnKeepGroupsRow.holds Try.pinned (OpenSpec.ofChange fnKeepGroupsSpec)

/-- ITS FALSE NEIGHBOUR: 'it returns false'. Refute it at one input. -/
def fnKeepGroupsWrong : ChangeSpec := { name := "fnKeepGroups", fn := fun _ => fun
  | [d] => { results := [.lit (.bool false)], args := [d] }
  | _ => none }
def FnKeepGroupsWrongFalsely : Prop := fnKeepGroupsRow.holds Try.pinned (OpenSpec.ofChange fnKeepGroupsWrong)

/-- 'laws.FnAnonJoin': WHATEVER THE INPUT: true; the input reads as it did. -/
def fnAnonJoinSpec : ChangeSpec := { name := "fnAnonJoin", fn := fun _ => fun
  | [d] => { results := [.lit (.bool true)], args := [d] }
  | _ => none }
def fnAnonJoinRow : OpenClaim := { program := "yteelbmbedcfkdaa", sum := "f12e0628f17d53f611d8e76d87afd5a833b90b68f0712c3087706350d142fbd1", func := "loop.example/disclosurecontrol/laws.FnAnonJoin", spec := "fnAnonJoin", plainKeys := false, apart := false }
def FnAnonJoinSaid : Prop := fnAnonJoinRow.holds Try.pinned (OpenSpec.ofChange fnAnonJoinSpec)

/-- ITS FALSE NEIGHBOUR: 'it returns false'. Refute it at one input. -/
def fnAnonJoinWrong : ChangeSpec := { name := "fnAnonJoin", fn := fun _ => fun
  | [d] => { results := [.lit (.bool false)], args := [d] }
  | _ => none }
def FnAnonJoinWrongFalsely : Prop := fnAnonJoinRow.holds Try.pinned (OpenSpec.ofChange fnAnonJoinWrong)

/-- 'laws.FnKeepLess': WHATEVER THE INPUT: true; the input reads as it did. -/
def fnKeepLessSpec : ChangeSpec := { name := "fnKeepLess", fn := fun _ => fun
  | [d] => { results := [.lit (.bool true)], args := [d] }
  | _ => none }
def fnKeepLessRow : OpenClaim := { program := "yteelbmbedcfkdaa", sum := "f12e0628f17d53f611d8e76d87afd5a833b90b68f0712c3087706350d142fbd1", func := "loop.example/disclosurecontrol/laws.FnKeepLess", spec := "fnKeepLess", plainKeys := false, apart := false }
def FnKeepLessSaid : Prop := fnKeepLessRow.holds Try.pinned (OpenSpec.ofChange fnKeepLessSpec)

/-- ITS FALSE NEIGHBOUR: 'it returns false'. Refute it at one input. -/
def fnKeepLessWrong : ChangeSpec := { name := "fnKeepLess", fn := fun _ => fun
  | [d] => { results := [.lit (.bool false)], args := [d] }
  | _ => none }
def FnKeepLessWrongFalsely : Prop := fnKeepLessRow.holds Try.pinned (OpenSpec.ofChange fnKeepLessWrong)

/- THE SECOND FORM. 'bulk': how many values and letters a reading holds, each counted each time it is reached (what is shared counts as often as it is met; a slice's spare places count too). A statement '..UptoSaid' is the law's where the arguments, and the package variables that the reading takes, are together of bulk at most 1048576: NARROWER than '..Said'. Prove '..Said' where nothing that the law and all that it calls make is longer than what came in: it says more and counts as full. Else prove '..UptoSaid'. A law counts once. -/
mutual
def uptoBulk {H : Type} : DataW H → Nat
  | .lit (.string bytes) => bytes.length + 1
  | .lit _ => 1
  | .nil => 1
  | .ptr d => uptoBulk d + 1
  | .slice elems spare => uptoBulkAll elems + uptoBulkAll spare + 1
  | .agg parts => uptoBulkAll parts + 1
  | .iface _ d => uptoBulk d + 1
  | .map entries => uptoBulkEntries entries + 1
  | .held _ => 1
def uptoBulkAll {H : Type} : List (DataW H) → Nat
  | [] => 0
  | d :: r => uptoBulk d + uptoBulkAll r
def uptoBulkEntries {H : Type} : List (Lit × DataW H) → Nat
  | [] => 0
  | x :: r => uptoBulkEntry x + uptoBulkEntries r
def uptoBulkEntry {H : Type} : Lit × DataW H → Nat
  | (.string bytes, d) => bytes.length + uptoBulk d + 1
  | (_, d) => uptoBulk d + 1
 end
def uptoSmall : (H : Type) → List (DataW H) → Bool := fun _ ds => decide (uptoBulkAll ds ≤ 1048576)
def OpenSpec.upto (s : _root_.Go.ChangeSpec) : _root_.Go.OpenSpec := { _root_.Go.OpenSpec.ofChange s with cond := some uptoSmall }

/-- 'laws.FnDrop', WHERE WHAT IT READS IS OF BULK AT MOST 1048576: true; the input reads as it did. -/
def fnDropUptoRow : OpenClaim := { program := "yteelbmbedcfkdaa", sum := "f12e0628f17d53f611d8e76d87afd5a833b90b68f0712c3087706350d142fbd1", func := "loop.example/disclosurecontrol/laws.FnDrop", spec := "fnDrop", plainKeys := false, apart := false, narrowed := true }
def FnDropUptoSaid : Prop := fnDropUptoRow.holds Try.pinned (OpenSpec.upto fnDropSpec)

/-- 'laws.FnDropCoarser', WHERE WHAT IT READS IS OF BULK AT MOST 1048576: true; the input reads as it did. -/
def fnDropCoarserUptoRow : OpenClaim := { program := "yteelbmbedcfkdaa", sum := "f12e0628f17d53f611d8e76d87afd5a833b90b68f0712c3087706350d142fbd1", func := "loop.example/disclosurecontrol/laws.FnDropCoarser", spec := "fnDropCoarser", plainKeys := false, apart := false, narrowed := true }
def FnDropCoarserUptoSaid : Prop := fnDropCoarserUptoRow.holds Try.pinned (OpenSpec.upto fnDropCoarserSpec)

/-- 'laws.FnAnonOk', WHERE WHAT IT READS IS OF BULK AT MOST 1048576: true; the input reads as it did. -/
def fnAnonOkUptoRow : OpenClaim := { program := "yteelbmbedcfkdaa", sum := "f12e0628f17d53f611d8e76d87afd5a833b90b68f0712c3087706350d142fbd1", func := "loop.example/disclosurecontrol/laws.FnAnonOk", spec := "fnAnonOk", plainKeys := false, apart := false, narrowed := true }
def FnAnonOkUptoSaid : Prop := fnAnonOkUptoRow.holds Try.pinned (OpenSpec.upto fnAnonOkSpec)

/-- 'laws.FnKeep', WHERE WHAT IT READS IS OF BULK AT MOST 1048576: true; the input reads as it did. -/
def fnKeepUptoRow : OpenClaim := { program := "yteelbmbedcfkdaa", sum := "f12e0628f17d53f611d8e76d87afd5a833b90b68f0712c3087706350d142fbd1", func := "loop.example/disclosurecontrol/laws.FnKeep", spec := "fnKeep", plainKeys := false, apart := false, narrowed := true }
def FnKeepUptoSaid : Prop := fnKeepUptoRow.holds Try.pinned (OpenSpec.upto fnKeepSpec)

/-- 'laws.FnKeepPeople', WHERE WHAT IT READS IS OF BULK AT MOST 1048576: true; the input reads as it did. -/
def fnKeepPeopleUptoRow : OpenClaim := { program := "yteelbmbedcfkdaa", sum := "f12e0628f17d53f611d8e76d87afd5a833b90b68f0712c3087706350d142fbd1", func := "loop.example/disclosurecontrol/laws.FnKeepPeople", spec := "fnKeepPeople", plainKeys := false, apart := false, narrowed := true }
def FnKeepPeopleUptoSaid : Prop := fnKeepPeopleUptoRow.holds Try.pinned (OpenSpec.upto fnKeepPeopleSpec)

/-- 'laws.FnDropOrder', WHERE WHAT IT READS IS OF BULK AT MOST 1048576: true; the input reads as it did. -/
def fnDropOrderUptoRow : OpenClaim := { program := "yteelbmbedcfkdaa", sum := "f12e0628f17d53f611d8e76d87afd5a833b90b68f0712c3087706350d142fbd1", func := "loop.example/disclosurecontrol/laws.FnDropOrder", spec := "fnDropOrder", plainKeys := false, apart := false, narrowed := true }
def FnDropOrderUptoSaid : Prop := fnDropOrderUptoRow.holds Try.pinned (OpenSpec.upto fnDropOrderSpec)

/-- 'laws.FnDropAll', WHERE WHAT IT READS IS OF BULK AT MOST 1048576: true; the input reads as it did. -/
def fnDropAllUptoRow : OpenClaim := { program := "yteelbmbedcfkdaa", sum := "f12e0628f17d53f611d8e76d87afd5a833b90b68f0712c3087706350d142fbd1", func := "loop.example/disclosurecontrol/laws.FnDropAll", spec := "fnDropAll", plainKeys := false, apart := false, narrowed := true }
def FnDropAllUptoSaid : Prop := fnDropAllUptoRow.holds Try.pinned (OpenSpec.upto fnDropAllSpec)

/-- 'laws.FnDropTwice', WHERE WHAT IT READS IS OF BULK AT MOST 1048576: true; the input reads as it did. -/
def fnDropTwiceUptoRow : OpenClaim := { program := "yteelbmbedcfkdaa", sum := "f12e0628f17d53f611d8e76d87afd5a833b90b68f0712c3087706350d142fbd1", func := "loop.example/disclosurecontrol/laws.FnDropTwice", spec := "fnDropTwice", plainKeys := false, apart := false, narrowed := true }
def FnDropTwiceUptoSaid : Prop := fnDropTwiceUptoRow.holds Try.pinned (OpenSpec.upto fnDropTwiceSpec)

/-- 'laws.FnKeepGroups', WHERE WHAT IT READS IS OF BULK AT MOST 1048576: true; the input reads as it did. -/
def fnKeepGroupsUptoRow : OpenClaim := { program := "yteelbmbedcfkdaa", sum := "f12e0628f17d53f611d8e76d87afd5a833b90b68f0712c3087706350d142fbd1", func := "loop.example/disclosurecontrol/laws.FnKeepGroups", spec := "fnKeepGroups", plainKeys := false, apart := false, narrowed := true }
def FnKeepGroupsUptoSaid : Prop := fnKeepGroupsUptoRow.holds Try.pinned (OpenSpec.upto fnKeepGroupsSpec)

/-- 'laws.FnAnonJoin', WHERE WHAT IT READS IS OF BULK AT MOST 1048576: true; the input reads as it did. -/
def fnAnonJoinUptoRow : OpenClaim := { program := "yteelbmbedcfkdaa", sum := "f12e0628f17d53f611d8e76d87afd5a833b90b68f0712c3087706350d142fbd1", func := "loop.example/disclosurecontrol/laws.FnAnonJoin", spec := "fnAnonJoin", plainKeys := false, apart := false, narrowed := true }
def FnAnonJoinUptoSaid : Prop := fnAnonJoinUptoRow.holds Try.pinned (OpenSpec.upto fnAnonJoinSpec)

/-- 'laws.FnKeepLess', WHERE WHAT IT READS IS OF BULK AT MOST 1048576: true; the input reads as it did. -/
def fnKeepLessUptoRow : OpenClaim := { program := "yteelbmbedcfkdaa", sum := "f12e0628f17d53f611d8e76d87afd5a833b90b68f0712c3087706350d142fbd1", func := "loop.example/disclosurecontrol/laws.FnKeepLess", spec := "fnKeepLess", plainKeys := false, apart := false, narrowed := true }
def FnKeepLessUptoSaid : Prop := fnKeepLessUptoRow.holds Try.pinned (OpenSpec.upto fnKeepLessSpec)

end Rows
end Go.Proofs.Yteelbmbedcfkdaa
