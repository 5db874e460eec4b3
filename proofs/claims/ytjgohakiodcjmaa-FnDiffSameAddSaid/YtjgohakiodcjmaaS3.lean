import Derived.Test.YtjgohakiodcjmaaS2
import Derived.Deep.RegionLaw
set_option maxRecDepth 100000
namespace Go.Proofs.Ytjgohakiodcjmaa
open Go.RowKit
theorem sWithout_yes (l : List Pn) (A : Option Addr) (c k : Nat) (hk : k < l.length) (hlc : l.length ≤ c) (w : World) (hr : Row w w.heap.size A (pcells l)) (hok : okL l = true) :
    Calls Try.prog 20 #[.slice A l.length c, .int .i64 k] w (Outed (less1 l k) true w) := by
  have hl40 := (okL_all hok).1
  have hm : l.length ≤ maxLen := by simp only [maxLen]; omega
  have h' : in3 k 0 ((l.length : Int) - 1) = true := by simp [in3]; omega
  have hkd : k ≤ c := by omega
  have hkd2 : (k : Int) ≤ (c : Int) := by omega
  have hkl2 : (k : Int) ≤ (l.length : Int) := by omega
  have hkl3 : (k : Int) + 1 ≤ (l.length : Int) := by omega
  go_enter Try.func20, Try.ntmps20
  go_wp2_with fail
  refine (sValid_any l A c _ hr hm).mono ?_
  rintro e w1 ⟨rfl, h1⟩
  rw [hok]
  clear hok
  go_wp2_with fail
  refine (l6In_any k 0 ((l.length : Int) - 1) _).mono ?_
  rintro e w' ⟨rfl, rfl⟩
  rw [h']
  clear h'
  have r1 := hr.front (k := k)
  obtain ⟨B2, hsl0, hB2⟩ := slice_tail A l.length c (k + 1) hk hlc
  have hsl : ∀ w, (Instr.sliceAt TPS (.slice A l.length c) (some (.int .i64 (IntKind.i64.wrap ((k : Int) + 1)))) none none).run Try.prog w = .ok (.slice B2 (l.length - (k + 1)) (c - (k + 1))) w := by rw [IntWalk.i64_in _ (by omega)]; exact hsl0
  have r2 := hB2 w _ l rfl hr
  clear hB2 hsl0 hr
  have n1 : k = (l.take k).length := by simp; omega
  have n2 : l.length - (k + 1) = (l.drop (k + 1)).length := by simp
  have N1 := Lib.hid n1; have N2 := Lib.hid n2; clear n1 n2
  have o0 : Own ((w1.alloc (.cells #[] TP)).drew) w.heap.size (.slice (some ⟨w1.heap.size, 0, none⟩) 0 0) [] := own_new w w1 h1
  have b0 : Below w.heap.size w ((w1.alloc (.cells #[] TP)).drew) := (h1.alloc h1.size _).drew
  go_wp2
  go_region_law (first
    | (refine step_people rfl (.tmp 18) (.tmp 21) rfl w.heap.size (.slice (some ⟨w1.heap.size, 0, none⟩) 0 0) [] rfl o0 w.heap.size A k c (l.take k) N1.out rfl (r1.below b0 (Nat.le_refl _)) (by simp; omega) b0.size ?_
       intro v3 w3 ho3 hg3
       have hb3 : Below w.heap.size w w3 := below_own b0 o0 hg3)
    | (refine step_people rfl (.tmp 22) (.tmp 26) rfl w.heap.size v3 ([] ++ l.take k) (by simp [Act.eval]) ho3 w.heap.size B2 (l.length - (k + 1)) (c - (k + 1)) (l.drop (k + 1)) N2.out rfl (r2.below hb3 (Nat.le_refl _)) (by simp; omega) hb3.size ?_
       intro v4 w4 ho4 hg4
       have hb4 : Below w.heap.size w w4 := below_own hb3 ho3 hg4
       clear ho3 hg3 hg4 hb3))
  go_wp2
  go_ret2
  exact ⟨v4, rfl, by simpa [less1] using ho4, hb4⟩
end Go.Proofs.Ytjgohakiodcjmaa
