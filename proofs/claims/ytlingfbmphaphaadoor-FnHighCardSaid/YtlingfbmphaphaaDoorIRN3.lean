/- Bounds of what is rounded; flags over lots; the program's functions at worlds Below. -/
import Derived.Test.YtlingfbmphaphaaDoorIRN2
namespace Go.Proofs.YtlingfbmphaphaaDoor
open Go.RowKit
theorem rDown_bd (x b : Int) : -1 ≤ rDown x b ∧ rDown x b ≤ 10000 := by
  rw [rDown_eq]; split
  · rename_i h; have := mod_bd (x := x) h.2.2.1; have := down_le h.1 h.2.2.1; omega
  · omega
theorem rDrw_bd (x b l : Int) : -1 ≤ rDrw x b l ∧ rDrw x b l ≤ 10020 := by
  rw [rDrw_eq]; split
  · rename_i h; have := mod_bd (x := x) h.1.2.2.1; have := down_le h.1.1 h.1.2.2.1; split <;> omega
  · omega
theorem rNear_le (x b : Int) : rNear x b ≤ 10020 := by
  rw [rNear_eq]; split
  · rename_i h; have := mod_bd (x := x) h.2.2.1; split <;> omega
  · omega
theorem rLow_bd (x b : Int) : -1 ≤ rLow x b ∧ rLow x b ≤ 10000 := by
  rw [rLow_eq]; split
  · rename_i h; omega
  · omega
theorem rHigh_bd (x b : Int) : -1 ≤ rHigh x b ∧ rHigh x b ≤ 10000 := by
  rw [rHigh_eq]; split
  · rename_i h; omega
  · omega
/-- Some lot below k draws y. -/
def fndB (x b y : Int) : Nat → Bool
  | 0 => false
  | k + 1 => fndB x b y k || decide (rDrw x b k = y)
theorem fndB_true {x b y : Int} {l : Nat} : ∀ {n : Nat}, l < n → rDrw x b l = y → fndB x b y n = true
  | 0, h, _ => by omega
  | n + 1, h, e => by
    simp only [fndB, Bool.or_eq_true, decide_eq_true_eq]
    by_cases hl : l = n
    · subst hl; exact .inr e
    · exact .inl (fndB_true (by omega) e)
theorem fndB_false {x b y : Int} : ∀ {n : Nat}, (∀ l : Nat, l < n → rDrw x b l ≠ y) → fndB x b y n = false
  | 0, _ => rfl
  | n + 1, h => by
    simp only [fndB, Bool.or_eq_false_iff, decide_eq_false_iff_not]
    exact ⟨fndB_false fun l hl => h l (by omega), h n (by omega)⟩
theorem fndB_ends {x b y : Int} (h2 : 2 ≤ b) (h : rDrw x b 0 = y ∨ rDrw x b (b - 1) = y) : fndB x b y b.toNat = true := by
  rcases h with h | h
  · exact fndB_true (l := 0) (by omega) h
  · exact fndB_true (l := (b - 1).toNat) (by omega) (by rw [show (((b - 1).toNat : Nat) : Int) = b - 1 by omega]; exact h)
theorem sumDrw_bd (x b : Int) : ∀ n : Nat, -n ≤ sumDrw x b n ∧ sumDrw x b n ≤ 10020 * n
  | 0 => by simp [sumDrw]
  | n + 1 => by have := sumDrw_bd x b n; have := rDrw_bd x b n; simp only [sumDrw]; omega
theorem cntDrw_le (x b : Int) : ∀ n : Nat, cntDrw x b n ≤ n
  | 0 => by simp [cntDrw]
  | n + 1 => by have := cntDrw_le x b n; simp only [cntDrw]; split <;> omega
theorem iDown_b (x b g : Int) (hg : rDown x b = g) (a : Addr) (W : World) (hE : ErrW a W) (w : World) (hb : Below W.heap.size W w) : Calls Tryd.prog 15 #[.int .i64 x, .int .i64 b] w (Back (.int .i64 g) W) :=
  (iDown_is x b g hg a w (hE.below hb)).mono fun _ _ h => ⟨h.1, h.2 ▸ hb⟩
theorem iNear_b (x b g : Int) (hg : rNear x b = g) (a : Addr) (W : World) (hE : ErrW a W) (w : World) (hb : Below W.heap.size W w) : Calls Tryd.prog 18 #[.int .i64 x, .int .i64 b] w (Back (.int .i64 g) W) :=
  (iNear_is x b g hg a w (hE.below hb)).mono fun _ _ h => ⟨h.1, h.2 ▸ hb⟩
theorem iDrw_b (x b l g : Int) (hg : rDrw x b l = g) (a : Addr) (W : World) (hE : ErrW a W) (w : World) (hb : Below W.heap.size W w) : Calls Tryd.prog 21 #[.int .i64 x, .int .i64 b, .int .i64 l] w (Back (.int .i64 g) W) :=
  (iDrw_is x b l g hg a w (hE.below hb)).mono fun _ _ h => ⟨h.1, h.2 ▸ hb⟩
theorem iLow_b (x b g : Int) (hg : rLow x b = g) (a : Addr) (W : World) (hE : ErrW a W) (w : World) (hb : Below W.heap.size W w) : Calls Tryd.prog 24 #[.int .i64 x, .int .i64 b] w (Back (.int .i64 g) W) :=
  (iLow_is x b g hg a w (hE.below hb)).mono fun _ _ h => ⟨h.1, h.2 ▸ hb⟩
theorem iHigh_b (x b g : Int) (hg : rHigh x b = g) (a : Addr) (W : World) (hE : ErrW a W) (w : World) (hb : Below W.heap.size W w) : Calls Tryd.prog 27 #[.int .i64 x, .int .i64 b] w (Back (.int .i64 g) W) :=
  (iHigh_is x b g hg a w (hE.below hb)).mono fun _ _ h => ⟨h.1, h.2 ▸ hb⟩
end Go.Proofs.YtlingfbmphaphaaDoor
