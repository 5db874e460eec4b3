/- Mathematics of chapter 21: rounding. Mathematics alone. -/
namespace Go.Proofs.YtlingfbmphaphaaDoor
def rOk (x b : Int) : Bool := decide (0 ≤ x ∧ x ≤ 10000 ∧ 2 ≤ b ∧ b ≤ 20)
theorem rOk_iff {x b : Int} : rOk x b = true ↔ 0 ≤ x ∧ x ≤ 10000 ∧ 2 ≤ b ∧ b ≤ 20 := by simp [rOk]
def rDown (x b : Int) : Int := if rOk x b = true then x - x % b else -1
def rNear (x b : Int) : Int := if rOk x b = true then (if b ≤ 2 * (x % b) then x - x % b + b else x - x % b) else -1
def rDrwOk (x b l : Int) : Bool := rOk x b && decide (0 ≤ l ∧ l ≤ b - 1)
def rDrw (x b l : Int) : Int := if rDrwOk x b l = true then (if l < x % b then x - x % b + b else x - x % b) else -1
def rMul (y b : Int) : Bool := rOk y b && decide (y % b = 0)
def rLow (y b : Int) : Int := if rMul y b = true then max 0 (y - b + 1) else -1
def rHigh (y b : Int) : Int := if rMul y b = true then min 10000 (y + b - 1) else -1
theorem rMul_iff {x b : Int} : rMul x b = true ↔ (0 ≤ x ∧ x ≤ 10000 ∧ 2 ≤ b ∧ b ≤ 20) ∧ x % b = 0 := by simp [rMul, rOk]
theorem rDrwOk_iff {x b l : Int} : rDrwOk x b l = true ↔ (0 ≤ x ∧ x ≤ 10000 ∧ 2 ≤ b ∧ b ≤ 20) ∧ 0 ≤ l ∧ l ≤ b - 1 := by simp [rDrwOk, rOk]
theorem rDown_eq (x b : Int) : rDown x b = if 0 ≤ x ∧ x ≤ 10000 ∧ 2 ≤ b ∧ b ≤ 20 then x - x % b else -1 := by unfold rDown; simp only [rOk_iff]
theorem rNear_eq (x b : Int) : rNear x b = if 0 ≤ x ∧ x ≤ 10000 ∧ 2 ≤ b ∧ b ≤ 20 then (if b ≤ 2 * (x % b) then x - x % b + b else x - x % b) else -1 := by unfold rNear; simp only [rOk_iff]
theorem rDrw_eq (x b l : Int) : rDrw x b l = if (0 ≤ x ∧ x ≤ 10000 ∧ 2 ≤ b ∧ b ≤ 20) ∧ 0 ≤ l ∧ l ≤ b - 1 then (if l < x % b then x - x % b + b else x - x % b) else -1 := by
  unfold rDrw; simp only [rDrwOk_iff]
theorem rLow_eq (y b : Int) : rLow y b = if (0 ≤ y ∧ y ≤ 10000 ∧ 2 ≤ b ∧ b ≤ 20) ∧ y % b = 0 then max 0 (y - b + 1) else -1 := by unfold rLow; simp only [rMul_iff]
theorem rHigh_eq (y b : Int) : rHigh y b = if (0 ≤ y ∧ y ≤ 10000 ∧ 2 ≤ b ∧ b ≤ 20) ∧ y % b = 0 then min 10000 (y + b - 1) else -1 := by unfold rHigh; simp only [rMul_iff]
theorem down_le {x b : Int} (h : 0 ≤ x) (hb : 2 ≤ b) : x % b ≤ x := by
  have h1 := Int.emod_add_mul_ediv x b
  have h2 := Int.mul_nonneg (show 0 ≤ b by omega) (Int.ediv_nonneg h (show 0 ≤ b by omega))
  omega
theorem mod_bd {x b : Int} (h : 2 ≤ b) : 0 ≤ x % b ∧ x % b < b := ⟨Int.emod_nonneg _ (by omega), Int.emod_lt_of_pos _ (by omega)⟩
theorem rDown_neg {x b : Int} : ¬ rDown x b < 0 ↔ rOk x b = true := by
  rw [rDown_eq, rOk_iff]
  constructor
  · intro h; split at h
    · assumption
    · omega
  · intro h
    rw [if_pos h]
    have := down_le h.1 h.2.2.1; omega
theorem rNear_neg {x b : Int} : ¬ rNear x b < 0 ↔ rOk x b = true := by
  rw [rNear_eq, rOk_iff]
  constructor
  · intro h; split at h
    · assumption
    · omega
  · intro h
    rw [if_pos h]
    have := down_le h.1 h.2.2.1; split <;> omega
theorem rDrw_neg {x b l : Int} : ¬ rDrw x b l < 0 ↔ rDrwOk x b l = true := by
  rw [rDrw_eq, rDrwOk_iff]
  constructor
  · intro h; split at h
    · assumption
    · omega
  · intro h
    rw [if_pos h]
    have := down_le h.1.1 h.1.2.2.1; split <;> omega
theorem rLow_neg {y b : Int} : ¬ rLow y b < 0 ↔ rMul y b = true := by
  rw [rLow_eq, rMul_iff]
  constructor
  · intro h; split at h
    · assumption
    · omega
  · intro h
    rw [if_pos h]
    omega
theorem rHigh_neg {y b : Int} : ¬ rHigh y b < 0 ↔ rMul y b = true := by
  rw [rHigh_eq, rMul_iff]
  constructor
  · intro h; split at h
    · assumption
    · omega
  · intro h
    rw [if_pos h]
    omega
theorem p172 {x b : Int} (h0 : 0 ≤ x) (h1 : x ≤ 10000) (h2 : 2 ≤ b) (h3 : b ≤ 20) : rDown x b % b = 0 ∧ rDown x b ≤ x ∧ x - b < rDown x b := by
  have _ := h0
  have _ := h1
  have _ := h2
  have _ := h3
  rcases (show b = 2 ∨ b = 3 ∨ b = 4 ∨ b = 5 ∨ b = 6 ∨ b = 7 ∨ b = 8 ∨ b = 9 ∨ b = 10 ∨ b = 11 ∨ b = 12 ∨ b = 13 ∨ b = 14 ∨ b = 15 ∨ b = 16 ∨ b = 17 ∨ b = 18 ∨ b = 19 ∨ b = 20 by omega) with rfl | rfl | rfl | rfl | rfl | rfl | rfl | rfl | rfl | rfl | rfl | rfl | rfl | rfl | rfl | rfl | rfl | rfl | rfl
  all_goals (simp only [rDown_eq]; omega)
theorem p173 {x b : Int} (h0 : 0 ≤ x) (h1 : x ≤ 10000) (h2 : 2 ≤ b) (h3 : b ≤ 20) : (x = 10000 ∧ rDown (x + 1) b = -1 ∨ rDown x b ≤ rDown (x + 1) b ∧ rDown (x + 1) b ≤ rDown x b + b) ∧ rDown (rDown x b) b = rDown x b := by
  have _ := h0
  have _ := h1
  have _ := h2
  have _ := h3
  rcases (show b = 2 ∨ b = 3 ∨ b = 4 ∨ b = 5 ∨ b = 6 ∨ b = 7 ∨ b = 8 ∨ b = 9 ∨ b = 10 ∨ b = 11 ∨ b = 12 ∨ b = 13 ∨ b = 14 ∨ b = 15 ∨ b = 16 ∨ b = 17 ∨ b = 18 ∨ b = 19 ∨ b = 20 by omega) with rfl | rfl | rfl | rfl | rfl | rfl | rfl | rfl | rfl | rfl | rfl | rfl | rfl | rfl | rfl | rfl | rfl | rfl | rfl
  all_goals (simp only [rDown_eq]; omega)
theorem p174 {x b : Int} (h0 : 0 ≤ x) (h1 : x ≤ 10000) (h2 : 2 ≤ b) (h3 : b ≤ 20) : rNear x b % b = 0 ∧ 2 * max (rNear x b - x) (x - rNear x b) ≤ b ∧ (2 * max (rNear x b - x) (x - rNear x b) < b ∨ x < rNear x b) := by
  have _ := h0
  have _ := h1
  have _ := h2
  have _ := h3
  rcases (show b = 2 ∨ b = 3 ∨ b = 4 ∨ b = 5 ∨ b = 6 ∨ b = 7 ∨ b = 8 ∨ b = 9 ∨ b = 10 ∨ b = 11 ∨ b = 12 ∨ b = 13 ∨ b = 14 ∨ b = 15 ∨ b = 16 ∨ b = 17 ∨ b = 18 ∨ b = 19 ∨ b = 20 by omega) with rfl | rfl | rfl | rfl | rfl | rfl | rfl | rfl | rfl | rfl | rfl | rfl | rfl | rfl | rfl | rfl | rfl | rfl | rfl
  all_goals (simp only [rNear_eq]; omega)
theorem p175 {x b : Int} (h0 : 0 ≤ x) (h1 : x ≤ 10000) (h2 : 2 ≤ b) (h3 : b ≤ 20) : (rNear x b = rDown x b ∨ rNear x b = rDown x b + b) ∧ (x % b ≠ 0 ∨ rNear x b = x) := by
  have _ := h0
  have _ := h1
  have _ := h2
  have _ := h3
  rcases (show b = 2 ∨ b = 3 ∨ b = 4 ∨ b = 5 ∨ b = 6 ∨ b = 7 ∨ b = 8 ∨ b = 9 ∨ b = 10 ∨ b = 11 ∨ b = 12 ∨ b = 13 ∨ b = 14 ∨ b = 15 ∨ b = 16 ∨ b = 17 ∨ b = 18 ∨ b = 19 ∨ b = 20 by omega) with rfl | rfl | rfl | rfl | rfl | rfl | rfl | rfl | rfl | rfl | rfl | rfl | rfl | rfl | rfl | rfl | rfl | rfl | rfl
  all_goals (simp only [rNear_eq, rDown_eq]; omega)
theorem p177 {x b l : Int} (h0 : 0 ≤ x) (h1 : x ≤ 10000) (h2 : 2 ≤ b) (h3 : b ≤ 20) (h4 : 0 ≤ l) (h5 : l ≤ b - 1) : rDrw x b l % b = 0 ∧ max (rDrw x b l - x) (x - rDrw x b l) < b ∧ rDrw x b (l + 1) ≤ rDrw x b l ∧ (x % b ≠ 0 ∨ rDrw x b l = x) := by
  have _ := h0
  have _ := h1
  have _ := h2
  have _ := h3
  have _ := h4
  have _ := h5
  rcases (show b = 2 ∨ b = 3 ∨ b = 4 ∨ b = 5 ∨ b = 6 ∨ b = 7 ∨ b = 8 ∨ b = 9 ∨ b = 10 ∨ b = 11 ∨ b = 12 ∨ b = 13 ∨ b = 14 ∨ b = 15 ∨ b = 16 ∨ b = 17 ∨ b = 18 ∨ b = 19 ∨ b = 20 by omega) with rfl | rfl | rfl | rfl | rfl | rfl | rfl | rfl | rfl | rfl | rfl | rfl | rfl | rfl | rfl | rfl | rfl | rfl | rfl
  all_goals (simp only [rDrw_eq]; omega)
theorem p178a {y b : Int} (h0 : 0 ≤ y) (h1 : y ≤ 10000) (h2 : 2 ≤ b) (h3 : b ≤ 20) (hm : y % b = 0) : rDrw (rLow y b) b 0 = y := by
  have _ := h0
  have _ := h1
  have _ := h2
  have _ := h3
  have _ := hm
  rcases (show b = 2 ∨ b = 3 ∨ b = 4 ∨ b = 5 ∨ b = 6 ∨ b = 7 ∨ b = 8 ∨ b = 9 ∨ b = 10 ∨ b = 11 ∨ b = 12 ∨ b = 13 ∨ b = 14 ∨ b = 15 ∨ b = 16 ∨ b = 17 ∨ b = 18 ∨ b = 19 ∨ b = 20 by omega) with rfl | rfl | rfl | rfl | rfl | rfl | rfl | rfl | rfl | rfl | rfl | rfl | rfl | rfl | rfl | rfl | rfl | rfl | rfl
  all_goals (simp only [rDrw_eq, rLow_eq]; omega)
theorem p178b {y b l : Int} (h0 : 0 ≤ y) (h1 : y ≤ 10000) (h2 : 2 ≤ b) (h3 : b ≤ 20) (hm : y % b = 0) (h4 : 0 ≤ l) (h5 : l ≤ b - 1) (hz : rLow y b ≠ 0) : rDrw (rLow y b - 1) b l ≠ y := by
  have _ := h0
  have _ := h1
  have _ := h2
  have _ := h3
  have _ := hm
  have _ := h4
  have _ := h5
  have _ := hz
  rcases (show b = 2 ∨ b = 3 ∨ b = 4 ∨ b = 5 ∨ b = 6 ∨ b = 7 ∨ b = 8 ∨ b = 9 ∨ b = 10 ∨ b = 11 ∨ b = 12 ∨ b = 13 ∨ b = 14 ∨ b = 15 ∨ b = 16 ∨ b = 17 ∨ b = 18 ∨ b = 19 ∨ b = 20 by omega) with rfl | rfl | rfl | rfl | rfl | rfl | rfl | rfl | rfl | rfl | rfl | rfl | rfl | rfl | rfl | rfl | rfl | rfl | rfl
  all_goals (simp only [rDrw_eq, rLow_eq] at hz ⊢; omega)
theorem p179a {y b : Int} (h0 : 0 ≤ y) (h1 : y ≤ 10000) (h2 : 2 ≤ b) (h3 : b ≤ 20) (hm : y % b = 0) : rDrw (rHigh y b) b (b - 1) = y := by
  have _ := h0
  have _ := h1
  have _ := h2
  have _ := h3
  have _ := hm
  rcases (show b = 2 ∨ b = 3 ∨ b = 4 ∨ b = 5 ∨ b = 6 ∨ b = 7 ∨ b = 8 ∨ b = 9 ∨ b = 10 ∨ b = 11 ∨ b = 12 ∨ b = 13 ∨ b = 14 ∨ b = 15 ∨ b = 16 ∨ b = 17 ∨ b = 18 ∨ b = 19 ∨ b = 20 by omega) with rfl | rfl | rfl | rfl | rfl | rfl | rfl | rfl | rfl | rfl | rfl | rfl | rfl | rfl | rfl | rfl | rfl | rfl | rfl
  all_goals (simp only [rDrw_eq, rHigh_eq]; omega)
theorem p179b {y b l : Int} (h0 : 0 ≤ y) (h1 : y ≤ 10000) (h2 : 2 ≤ b) (h3 : b ≤ 20) (hm : y % b = 0) (h4 : 0 ≤ l) (h5 : l ≤ b - 1) : rDrw (rHigh y b + 1) b l ≠ y := by
  have _ := h0
  have _ := h1
  have _ := h2
  have _ := h3
  have _ := hm
  have _ := h4
  have _ := h5
  rcases (show b = 2 ∨ b = 3 ∨ b = 4 ∨ b = 5 ∨ b = 6 ∨ b = 7 ∨ b = 8 ∨ b = 9 ∨ b = 10 ∨ b = 11 ∨ b = 12 ∨ b = 13 ∨ b = 14 ∨ b = 15 ∨ b = 16 ∨ b = 17 ∨ b = 18 ∨ b = 19 ∨ b = 20 by omega) with rfl | rfl | rfl | rfl | rfl | rfl | rfl | rfl | rfl | rfl | rfl | rfl | rfl | rfl | rfl | rfl | rfl | rfl | rfl
  all_goals (simp only [rDrw_eq, rHigh_eq]; omega)
theorem p180 {x b l : Int} (h0 : 0 ≤ x) (h1 : x ≤ 10000) (h2 : 2 ≤ b) (h3 : b ≤ 20) (h4 : 0 ≤ l) (h5 : l ≤ b - 1) : 10000 < rDrw x b l ∨ rLow (rDrw x b l) b ≤ x ∧ x ≤ rHigh (rDrw x b l) b := by
  have _ := h0
  have _ := h1
  have _ := h2
  have _ := h3
  have _ := h4
  have _ := h5
  rcases (show b = 2 ∨ b = 3 ∨ b = 4 ∨ b = 5 ∨ b = 6 ∨ b = 7 ∨ b = 8 ∨ b = 9 ∨ b = 10 ∨ b = 11 ∨ b = 12 ∨ b = 13 ∨ b = 14 ∨ b = 15 ∨ b = 16 ∨ b = 17 ∨ b = 18 ∨ b = 19 ∨ b = 20 by omega) with rfl | rfl | rfl | rfl | rfl | rfl | rfl | rfl | rfl | rfl | rfl | rfl | rfl | rfl | rfl | rfl | rfl | rfl | rfl
  all_goals (simp only [rDrw_eq, rLow_eq, rHigh_eq]; omega)
theorem p181 {y b : Int} (h0 : 0 ≤ y) (h1 : y ≤ 10000) (h2 : 2 ≤ b) (h3 : b ≤ 20) (hm : y % b = 0) : rHigh y b - rLow y b ≤ 2 * b - 2 ∧ (y < b ∨ 10000 - b < y ∨ rHigh y b - rLow y b = 2 * b - 2) := by
  have _ := h0
  have _ := h1
  have _ := h2
  have _ := h3
  have _ := hm
  rcases (show b = 2 ∨ b = 3 ∨ b = 4 ∨ b = 5 ∨ b = 6 ∨ b = 7 ∨ b = 8 ∨ b = 9 ∨ b = 10 ∨ b = 11 ∨ b = 12 ∨ b = 13 ∨ b = 14 ∨ b = 15 ∨ b = 16 ∨ b = 17 ∨ b = 18 ∨ b = 19 ∨ b = 20 by omega) with rfl | rfl | rfl | rfl | rfl | rfl | rfl | rfl | rfl | rfl | rfl | rfl | rfl | rfl | rfl | rfl | rfl | rfl | rfl
  all_goals (simp only [rLow_eq, rHigh_eq]; omega)
theorem p182 {x b : Int} (h0 : 0 ≤ x) (h1 : x ≤ 10000) (h2 : 2 ≤ b) (h3 : b ≤ 20) : (x = 10000 ∧ rNear (x + 1) b = -1 ∨ rNear x b ≤ rNear (x + 1) b) ∧ (10000 < x + b / 2 ∨ rDown (x + b / 2) b = rNear x b ∨ b % 2 = 1) := by
  have _ := h0
  have _ := h1
  have _ := h2
  have _ := h3
  rcases (show b = 2 ∨ b = 3 ∨ b = 4 ∨ b = 5 ∨ b = 6 ∨ b = 7 ∨ b = 8 ∨ b = 9 ∨ b = 10 ∨ b = 11 ∨ b = 12 ∨ b = 13 ∨ b = 14 ∨ b = 15 ∨ b = 16 ∨ b = 17 ∨ b = 18 ∨ b = 19 ∨ b = 20 by omega) with rfl | rfl | rfl | rfl | rfl | rfl | rfl | rfl | rfl | rfl | rfl | rfl | rfl | rfl | rfl | rfl | rfl | rfl | rfl
  all_goals (simp only [rNear_eq, rDown_eq]; omega)
theorem p183 {x b l : Int} (h0 : 0 ≤ x) (h1 : x ≤ 10000) (h2 : 2 ≤ b) (h3 : b ≤ 20) (h4 : 0 ≤ l) (h5 : l ≤ b - 1) (h6 : x + b ≤ 10000) : rDown (x + b) b = rDown x b + b ∧ rNear (x + b) b = rNear x b + b ∧ rDrw (x + b) b l = rDrw x b l + b := by
  have _ := h0
  have _ := h1
  have _ := h2
  have _ := h3
  have _ := h4
  have _ := h5
  have _ := h6
  rcases (show b = 2 ∨ b = 3 ∨ b = 4 ∨ b = 5 ∨ b = 6 ∨ b = 7 ∨ b = 8 ∨ b = 9 ∨ b = 10 ∨ b = 11 ∨ b = 12 ∨ b = 13 ∨ b = 14 ∨ b = 15 ∨ b = 16 ∨ b = 17 ∨ b = 18 ∨ b = 19 ∨ b = 20 by omega) with rfl | rfl | rfl | rfl | rfl | rfl | rfl | rfl | rfl | rfl | rfl | rfl | rfl | rfl | rfl | rfl | rfl | rfl | rfl
  all_goals (simp only [rNear_eq, rDown_eq, rDrw_eq]; omega)
theorem p185 {y b x : Int} (h0 : 0 ≤ y) (h1 : y ≤ 10000) (h2 : 2 ≤ b) (h3 : b ≤ 20) (hm : y % b = 0) (h4 : rLow y b ≤ x) (h5 : x ≤ rHigh y b) : (rDrw x b 0 = y ∨ rDrw x b (b - 1) = y) ∧ rLow y b ≤ y ∧ y ≤ rHigh y b := by
  have _ := h0
  have _ := h1
  have _ := h2
  have _ := h3
  have _ := hm
  have _ := h4
  have _ := h5
  rcases (show b = 2 ∨ b = 3 ∨ b = 4 ∨ b = 5 ∨ b = 6 ∨ b = 7 ∨ b = 8 ∨ b = 9 ∨ b = 10 ∨ b = 11 ∨ b = 12 ∨ b = 13 ∨ b = 14 ∨ b = 15 ∨ b = 16 ∨ b = 17 ∨ b = 18 ∨ b = 19 ∨ b = 20 by omega) with rfl | rfl | rfl | rfl | rfl | rfl | rfl | rfl | rfl | rfl | rfl | rfl | rfl | rfl | rfl | rfl | rfl | rfl | rfl
  all_goals (simp only [rDrw_eq, rLow_eq, rHigh_eq] at h4 h5 ⊢; omega)
theorem p186 {x b : Int} (h0 : 0 ≤ x) (h1 : x ≤ 10000) (h2 : 2 ≤ b) (h3 : 2 * b ≤ 20) : rDown x (2 * b) ≤ rDown x b ∧ rDown x b - rDown x (2 * b) ≤ b ∧ rDown (rDown x b) (2 * b) = rDown x (2 * b) ∧ rDown (rDown x (2 * b)) b = rDown x (2 * b) := by
  have _ := h0
  have _ := h1
  have _ := h2
  have _ := h3
  rcases (show b = 2 ∨ b = 3 ∨ b = 4 ∨ b = 5 ∨ b = 6 ∨ b = 7 ∨ b = 8 ∨ b = 9 ∨ b = 10 by omega) with rfl | rfl | rfl | rfl | rfl | rfl | rfl | rfl | rfl
  all_goals (simp only [rDown_eq]; omega)
theorem p187 {x b : Int} (h0 : 0 ≤ x) (h1 : x ≤ 10000) (h2 : 2 ≤ b) (h3 : b ≤ 20) : rDrw x b 0 = rNear x b ∨ rDrw x b (b - 1) = rNear x b := by
  have _ := h0
  have _ := h1
  have _ := h2
  have _ := h3
  rcases (show b = 2 ∨ b = 3 ∨ b = 4 ∨ b = 5 ∨ b = 6 ∨ b = 7 ∨ b = 8 ∨ b = 9 ∨ b = 10 ∨ b = 11 ∨ b = 12 ∨ b = 13 ∨ b = 14 ∨ b = 15 ∨ b = 16 ∨ b = 17 ∨ b = 18 ∨ b = 19 ∨ b = 20 by omega) with rfl | rfl | rfl | rfl | rfl | rfl | rfl | rfl | rfl | rfl | rfl | rfl | rfl | rfl | rfl | rfl | rfl | rfl | rfl
  all_goals (simp only [rDrw_eq, rNear_eq]; omega)
/-- Over the lots below n: what is drawn, and how often it is above the number. -/
def sumDrw (x b : Int) : Nat → Int
  | 0 => 0
  | n + 1 => sumDrw x b n + rDrw x b n
def cntDrw (x b : Int) : Nat → Nat
  | 0 => 0
  | n + 1 => cntDrw x b n + if x < rDrw x b n then 1 else 0
theorem sumDrw_eq {x b : Int} (h0 : 0 ≤ x) (h1 : x ≤ 10000) (h2 : 2 ≤ b) (h3 : b ≤ 20) : ∀ n : Nat, (n : Int) ≤ b → sumDrw x b n = n * (x - x % b) + b * min (n : Int) (x % b)
  | 0, _ => by have := mod_bd (x := x) h2; simp only [sumDrw]; rw [show min ((0 : Nat) : Int) (x % b) = 0 by omega]; simp
  | n + 1, h => by
    have hm := mod_bd (x := x) h2
    have ih := sumDrw_eq h0 h1 h2 h3 n (by omega)
    simp only [sumDrw, ih, rDrw_eq]
    rw [if_pos ⟨⟨h0, h1, h2, h3⟩, by omega, by omega⟩]
    by_cases hl : (n : Int) < x % b
    · rw [if_pos hl, show min (n : Int) (x % b) = n by omega, show min ((n + 1 : Nat) : Int) (x % b) = n + 1 by omega, Int.natCast_add, Int.add_mul, Int.mul_add]
      simp only [Int.natCast_one, Int.one_mul, Int.mul_one]; omega
    · rw [if_neg hl, show min (n : Int) (x % b) = x % b by omega, show min ((n + 1 : Nat) : Int) (x % b) = x % b by omega, Int.natCast_add, Int.add_mul]
      simp only [Int.natCast_one, Int.one_mul]; omega
theorem p176 {x b : Int} (h0 : 0 ≤ x) (h1 : x ≤ 10000) (h2 : 2 ≤ b) (h3 : b ≤ 20) : sumDrw x b b.toNat = x * b := by
  have hm := mod_bd (x := x) h2
  have e : ((b.toNat : Nat) : Int) = b := by omega
  rw [sumDrw_eq h0 h1 h2 h3 _ (by omega), e, show min b (x % b) = x % b by omega, Int.mul_sub, Int.mul_comm b x]; omega
theorem cntDrw_eq {x b : Int} (h0 : 0 ≤ x) (h1 : x ≤ 10000) (h2 : 2 ≤ b) (h3 : b ≤ 20) : ∀ n : Nat, (n : Int) ≤ b → (cntDrw x b n : Int) = min (n : Int) (x % b)
  | 0, _ => by have := mod_bd (x := x) h2; simp only [cntDrw]; omega
  | n + 1, h => by
    have hm := mod_bd (x := x) h2
    have ih := cntDrw_eq h0 h1 h2 h3 n (by omega)
    have e : rDrw x b n = if (n : Int) < x % b then x - x % b + b else x - x % b := by rw [rDrw_eq, if_pos ⟨⟨h0, h1, h2, h3⟩, by omega, by omega⟩]
    simp only [cntDrw]
    by_cases hl : (n : Int) < x % b
    · rw [if_pos hl] at e
      rw [if_pos (by rw [e]; omega)]; omega
    · rw [if_neg hl] at e
      rw [if_neg (by rw [e]; omega)]; omega
theorem p184 {x b : Int} (h0 : 0 ≤ x) (h1 : x ≤ 10000) (h2 : 2 ≤ b) (h3 : b ≤ 20) : (cntDrw x b b.toNat : Int) = x % b := by
  have hm := mod_bd (x := x) h2
  rw [cntDrw_eq h0 h1 h2 h3 _ (by omega)]; omega
end Go.Proofs.YtlingfbmphaphaaDoor
