/- Ladders' functions, by values. -/
import Derived.Test.YtbbgakbobefplaaLI2
import Derived.Test.YtbbgakbobefplaaIR
namespace Go.Proofs.Ytbbgakbobefplaa
open Go.RowKit
theorem iLCode_is (W : World) (ll : List (List Int)) (u : Value) (hu : IsR W u ll) (level code x : Int) (t : Bool) (hx : lcode ll level code = x) (ht : codeOk ll level code = t) (w : World) (hb : Below W.heap.size W w) :
    Calls Try.prog 20 #[u, .int .i64 level, .int .i64 code] w (Back (.tuple #[.int .i64 x, .bool t]) W) := by
  subst hx ht
  obtain ⟨A, c, rfl, a1, a2, a3⟩ := hu
  refine (iLadCode_any ll A _ c rfl (Nat.le_trans a1 a2) level code w (a3.moved hb)).mono ?_
  rintro e w' ⟨he, m, rfl⟩
  exact ⟨he, below_draws hb m⟩
end Go.Proofs.Ytbbgakbobefplaa
