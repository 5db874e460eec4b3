/- People in memory, by their value. Words for 'append(append([]Person{}, list...), p)' in a drawn region. samePeople, by values. -/
import Derived.Test.YtadagmjagjbocaaA2
import Derived.Deep.RegionLaw
import Derived.Test.YtadagmjagjbocaaA1
namespace Go.Proofs.Ytadagmjagjbocaa
open Go.RowKit
end Go.Proofs.Ytadagmjagjbocaa
namespace Go.Proofs.Ytadagmjagjbocaa
open Go.RowKit
end Go.Proofs.Ytadagmjagjbocaa
namespace Go.Proofs.Ytadagmjagjbocaa
open Go.RowKit
end Go.Proofs.Ytadagmjagjbocaa
namespace Go.Proofs.Ytadagmjagjbocaa
open Go.RowKit
end Go.Proofs.Ytadagmjagjbocaa
namespace Go.Proofs.Ytadagmjagjbocaa
open Go.RowKit
theorem modCutA (m n : Nat) : ∃ k : Nat, (m : Int) % ((n : Int) + 1) = k ∧ k ≤ n :=
  ⟨m % (n + 1), by simp, by have := Nat.mod_lt m (show 0 < n + 1 by omega); omega⟩
end Go.Proofs.Ytadagmjagjbocaa
namespace Go.Proofs.Ytadagmjagjbocaa
open Go.RowKit
end Go.Proofs.Ytadagmjagjbocaa
