/- Contracts of the program: tables and masks that are valid, flags counted. -/
import Derived.Test.YtflelekpcbmmbaaIM4
import Derived.Test.YtflelekpcbmmbaaTS7
namespace Go.Proofs.Ytflelekpcbmmbaa
open Go.RowKit Go.Shelf
theorem iTab_is (W : World) (t : Tb) (v : Value) (hv : IsR W v t) (g : Bool) (hg : tabOk t = g) (w : World) (hb : Below W.heap.size W w) :
    Calls Try.prog 31 #[v] w (Back (.bool g) W) := by
  go_enter Try.func31, Try.ntmps31
  go_wp2_with fail
  refine (iTGrid_is W t _ hv g hg _ hb).mono ?_
  rintro e w1 ⟨rfl, b1⟩
  unfold gridV
  have hz1 := b1.size
  obtain ⟨A, c, rfl, _, _, _⟩ := hv
  cases g
  · go_wp2
    go_ret
    exact ⟨rfl, b1.alloc hz1 _⟩
  · go_wp2
    go_ret
    exact ⟨rfl, b1.alloc hz1 _⟩
end Go.Proofs.Ytflelekpcbmmbaa
