/- Counting people, by values. -/
import Derived.Test.YtbbgakbobefplaaT6
import Derived.Test.YtbbgakbobefplaaIP
namespace Go.Proofs.Ytbbgakbobefplaa
open Go.RowKit
theorem iMany_is (W : World) (l : List Pn) (v : Value) (hv : IsP W v l) (a j s : Int) (g : Int) (hg : many l a j s = g) (w : World) (hb : Below W.heap.size W w) :
    Calls Try.prog 19 #[v, .int .i64 a, .int .i64 j, .int .i64 s] w (Back (.int .i64 g) W) := by
  subst hg
  obtain ⟨A, c, rfl, a1, a2, a3⟩ := hv
  exact (many_any l A c a j s w (a3.moved hb) (Nat.le_trans a1 a2)).mono fun _ _ h => ⟨h.1, hb.trans (h.2.mono hb.size)⟩
theorem iPay_is (W : World) (l : List Pn) (v : Value) (hv : IsP W v l) (a j s : Int) (g : Int) (hg : pay l a j s = g) (w : World) (hb : Below W.heap.size W w) :
    Calls Try.prog 21 #[v, .int .i64 a, .int .i64 j, .int .i64 s] w (Back (.int .i64 g) W) := by
  subst hg
  obtain ⟨A, c, rfl, a1, a2, a3⟩ := hv
  exact (pay_any l A c a j s w (a3.moved hb) (Nat.le_trans a1 a2)).mono fun _ _ h => ⟨h.1, hb.trans (h.2.mono hb.size)⟩
theorem iPeopleValid_is (W : World) (l : List Pn) (v : Value) (hv : IsP W v l) (g : Bool) (hg : okL l = g) (w : World) (hb : Below W.heap.size W w) :
    Calls Try.prog 18 #[v] w (Back (.bool g) W) := by
  subst hg
  obtain ⟨A, c, rfl, a1, a2, a3⟩ := hv
  exact (valid_any l A c w (a3.moved hb) (Nat.le_trans a1 a2)).mono fun _ _ h => ⟨h.1, hb.trans (h.2.mono hb.size)⟩
end Go.Proofs.Ytbbgakbobefplaa
