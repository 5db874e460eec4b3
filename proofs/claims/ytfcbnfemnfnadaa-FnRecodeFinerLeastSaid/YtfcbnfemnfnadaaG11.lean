/- Contracts of the model: finer recodings. -/
import Derived.Test.YtfcbnfemnfnadaaG3
namespace Go.Proofs.Ytfcbnfemnfnadaa
open Go.RowKit
theorem finer_no {ll : List (List Int)} {a b : Rc} (h : rcOk ll a = false ∨ rcOk ll b = false) : rcFiner ll a b = false := by
  rcases h with h | h <;> simp [rcFiner, h]
set_option maxHeartbeats 1000000 in
theorem sFiner_any (ll : List (List Int)) (n : Nat) (hn : n = ll.length) (A : Option Addr) (c : Nat) (hl : ll.length ≤ maxLen) (a b : Rc) (w : World) (hr : LL w w.heap.size A ll) :
    Calls Try.prog 26 #[.slice A n c, a.val, b.val] w fun e w' => e = .returned (.bool (rcFiner ll a b)) ∧ Below w.heap.size w w' := by
  have HN := Lib.hid hn; clear hn
  obtain ⟨W, hW⟩ : ∃ W, W = ((w.alloc (.cells #[.int .i64 a.area, .int .i64 a.job, .int .i64 a.sex] TRc)).alloc (.cells #[.int .i64 b.area, .int .i64 b.job, .int .i64 b.sex] TRc)) := ⟨_, rfl⟩
  have hb : Below w.heap.size w W := by rw [hW]; exact ((Below.refl _ _).alloc (Nat.le_refl _) _).alloc (by simp) _
  have c0 : W.cell? ⟨w.heap.size, 0, none⟩ = some (.int .i64 a.area) := by rw [hW]; simp [go_sem]
  have c1 : W.cell? ⟨w.heap.size, 1, none⟩ = some (.int .i64 a.job) := by rw [hW]; simp [go_sem]
  have c2 : W.cell? ⟨w.heap.size, 2, none⟩ = some (.int .i64 a.sex) := by rw [hW]; simp [go_sem]
  have d0 : W.cell? ⟨w.heap.size + 1, 0, none⟩ = some (.int .i64 b.area) := by rw [hW]; simp [go_sem]
  have d1 : W.cell? ⟨w.heap.size + 1, 1, none⟩ = some (.int .i64 b.job) := by rw [hW]; simp [go_sem]
  have d2 : W.cell? ⟨w.heap.size + 1, 2, none⟩ = some (.int .i64 b.sex) := by rw [hW]; simp [go_sem]
  have hz : w.heap.size + 1 < W.heap.size := by rw [hW]; simp
  have hz0 : w.heap.size < W.heap.size := by omega
  have HL := Lib.hid (hr.moved hb)
  have HB := Lib.hid hb
  clear hr hb
  go_enter Try.func26, Try.ntmps26
  go_wp2_with fail
  rw [← hW]
  clear hW
  refine (sRcValid_any ll n HN.out A c hl a _ HL.out).mono ?_
  rintro e w2 ⟨rfl, h2⟩
  have HB2 := Lib.hid (HB.out.trans (h2.mono HB.out.size))
  cases h1 : rcOk ll a
  · have HE := Lib.hid (finer_no (a := a) (b := b) (.inl h1)); clear h1 h2
    go_wp2
    go_ret
    exact ⟨retb HE.out.symm, HB2.out⟩
  have H1 := Lib.hid h1; clear h1
  have c0' := (h2.cell (p := ⟨w.heap.size, 0, none⟩) hz0).trans c0
  have c1' := (h2.cell (p := ⟨w.heap.size, 1, none⟩) hz0).trans c1
  have c2' := (h2.cell (p := ⟨w.heap.size, 2, none⟩) hz0).trans c2
  have d0' := (h2.cell (p := ⟨w.heap.size + 1, 0, none⟩) hz).trans d0
  have d1' := (h2.cell (p := ⟨w.heap.size + 1, 1, none⟩) hz).trans d1
  have d2' := (h2.cell (p := ⟨w.heap.size + 1, 2, none⟩) hz).trans d2
  have hz2 : w.heap.size + 1 < w2.heap.size := by have := h2.size; omega
  have hz20 : w.heap.size < w2.heap.size := by omega
  have HL2 := Lib.hid (HL.out.moved h2)
  clear h2 c0 c1 c2 d0 d1 d2
  go_wp2_with fail
  refine (sRcValid_any ll n HN.out A c hl b _ HL2.out).mono ?_
  rintro e w3 ⟨rfl, h3⟩
  have HB3 := Lib.hid (HB2.out.trans (h3.mono HB2.out.size))
  cases h1 : rcOk ll b
  · have HE := Lib.hid (finer_no (a := a) (b := b) (.inr h1)); clear h1 h3
    go_wp2
    go_ret
    exact ⟨retb HE.out.symm, HB3.out⟩
  have H2 := Lib.hid h1; clear h1
  have e0 := (h3.cell (p := ⟨w.heap.size, 0, none⟩) hz20).trans c0'
  have e1 := (h3.cell (p := ⟨w.heap.size, 1, none⟩) hz20).trans c1'
  have e2 := (h3.cell (p := ⟨w.heap.size, 2, none⟩) hz20).trans c2'
  have f0 := (h3.cell (p := ⟨w.heap.size + 1, 0, none⟩) hz2).trans d0'
  have f1 := (h3.cell (p := ⟨w.heap.size + 1, 1, none⟩) hz2).trans d1'
  have f2 := (h3.cell (p := ⟨w.heap.size + 1, 2, none⟩) hz2).trans d2'
  have HE := Lib.hid (show rcFiner ll a b = (decide (a.area ≤ b.area) && decide (a.job ≤ b.job) && decide (a.sex ≤ b.sex)) by simp [rcFiner, H1.out, H2.out])
  clear h3 c0' c1' c2' d0' d1' d2'
  go_wp2
  all_goals
    go_ret
    exact ⟨retb (by rw [HE.out, Bool.eq_iff_iff]; simp; try omega), HB3.out⟩
end Go.Proofs.Ytfcbnfemnfnadaa
