import Derived.Test.YtoomcnlklkhjaaaT10
import Derived.OpenShut
namespace Go.Proofs.Ytoomcnlklkhjaaa
open Go.RowKit
/-- What the frame tells of a slice of integers that came in. -/
def IsRow (k : IntKind) (w : World) (a : Option Addr) (len cap : Nat) (zs : List Int) : Prop :=
  (a = none ∧ len = 0 ∧ cap = 0 ∧ zs = []) ∨
  ∃ x, a = some x ∧ len ≤ cap ∧ cap ≤ maxLen ∧ zs.length = cap ∧ (∀ i, i < zs.length → w.cell? (x.add i) = some (.int k (zs.getD i 0))) ∧ ∀ n ∈ zs, (Lit.int k n).wf = true
theorem IsRow.len {k : IntKind} {w : World} {a : Option Addr} {len cap : Nat} {zs : List Int} (h : IsRow k w a len cap zs) : len ≤ cap ∧ len ≤ maxLen := by
  rcases h with ⟨_, rfl, rfl, _⟩ | ⟨x, _, h1, h2, _⟩
  · exact ⟨Nat.le_refl _, Nat.zero_le _⟩
  · exact ⟨h1, by omega⟩
theorem IsRow.bytes {w : World} {a : Option Addr} {len cap : Nat} {zs : List Int} (h : IsRow .u8 w a len cap zs) : Bytes w w.heap.size a len := by
  rcases h with ⟨_, h0, _⟩ | ⟨x, rfl, h1, h2, hz, hc, hw⟩
  · exact .inl h0
  · by_cases h0 : len = 0
    · exact .inl h0
    · right
      obtain ⟨b, o, spot⟩ := x
      have hc0 := hc 0 (by omega)
      have hs : spot = none := by simpa [Addr.add] using World.cell?_spot hc0
      subst hs
      refine ⟨b, o, rfl, ?_, fun k hk => ?_⟩
      · have := block_lt_of_cell hc0
        simpa [Addr.add] using this
      · have hck := hc k (by omega)
        rw [Addr.add_lit] at hck
        have hwf := hw (zs.getD k 0) (by rw [List.getD_eq_getElem?_getD, List.getElem?_eq_getElem (by omega)]; exact List.getElem_mem (by omega))
        have hb := bounds_u8 hwf
        exact ⟨_, hb.1, hb.2, hck⟩
theorem band_cases (x : Int) : (0 ≤ x ∧ x ≤ 999 ∧ 0 ≤ band x ∧ band x ≤ 9 ∧ 100 * band x ≤ x ∧ x < 100 * band x + 100) ∨ ((x < 0 ∨ 999 < x) ∧ band x = -1) := by
  unfold band
  by_cases h : 0 ≤ x ∧ x ≤ 999
  · rw [if_pos h]; left; omega
  · rw [if_neg h]; right; omega
theorem w_PeopleBand (A : Option Addr) (n c : Nat) (hnc : n ≤ c) (hn : n ≤ maxLen) (w : World) (hb : Bytes w w.heap.size A n) :
    Calls Try.prog 7 #[.slice A n c] w fun e w' => e = .returned (.bool true) ∧ Below w.heap.size w w' := by
  have hn2 := hn
  unfold maxLen at hn2
  by_cases hbig : 1048576 < n
  · go_enter Try.func7, Try.ntmps7
    go_wp2
    go_ret
    exact ⟨rfl, Below.refl _ _⟩
  · go_enter Try.func7, Try.ntmps7
    go_wp2_with fail
    refine (drawBand_any A n c hnc hn _ hb).mono ?_
    rintro e w1 ⟨x, rfl, x0, x1, hb1⟩
    go_wp2_with fail
    refine (band_any x _).mono ?_
    rintro e w' ⟨rfl, rfl⟩
    go_wp2_with fail
    refine (sBand_any x _).mono ?_
    rintro e w' ⟨rfl, rfl⟩
    rcases band_cases x with ⟨h0, h1, h2, h3, h4, h5⟩ | ⟨_, h1⟩
    · generalize band x = y at *
      go_wp2
      all_goals go_ret
      all_goals exact ⟨retb (by simp; try omega), hb1⟩
    · rw [h1]
      clear h1
      go_wp2
      go_ret
      exact ⟨rfl, hb1⟩
end Go.Proofs.Ytoomcnlklkhjaaa
