/- Diversity: what it is. -/
import Derived.Test.YtaaljmmnfgghfaaAM
namespace Go.Proofs.Ytaaljmmnfgghfaa
open Go.RowKit
def bnds : List Int := [0, 1, 2, 3, 4, 5, 6, 7, 8, 9]
theorem bnds_mem {b : Int} : b ∈ bnds ↔ 0 ≤ b ∧ b ≤ 9 := by
  simp only [bnds, List.mem_cons, List.not_mem_nil, or_false]; omega
theorem sum_add {β : Type} (f g : β → Nat) : ∀ L : List β, (L.map fun b => f b + g b).sum = (L.map f).sum + (L.map g).sum
  | [] => rfl
  | b :: L => by simp only [List.map_cons, List.sum_cons, sum_add f g L]; omega
theorem sum_one {b : Int} (h : b ∈ bnds) : (bnds.map fun c => if b = c then 1 else 0).sum = 1 := by
  have h2 := bnds_mem.1 h
  rcases (show b = 0 ∨ b = 1 ∨ b = 2 ∨ b = 3 ∨ b = 4 ∨ b = 5 ∨ b = 6 ∨ b = 7 ∨ b = 8 ∨ b = 9 by omega) with rfl | rfl | rfl | rfl | rfl | rfl | rfl | rfl | rfl | rfl <;> decide
theorem sum_le {β : Type} (f g : β → Nat) : ∀ L : List β, (∀ b ∈ L, f b ≤ g b) → (L.map f).sum ≤ (L.map g).sum
  | [], _ => Nat.le_refl _
  | b :: L, h => by
    have h1 := h b (by simp)
    have h2 := sum_le f g L fun c hc => h c (List.mem_cons_of_mem _ hc)
    simp only [List.map_cons, List.sum_cons]; omega
section
variable {α : Type}
def tb (y : List (α × Int)) (b : Int) : Nat := (y.filter fun q => decide (q.2 = b)).length
def Bn (y : List (α × Int)) : Prop := ∀ q ∈ y, q.2 ∈ bnds
theorem tb_cons (q : α × Int) (y : List (α × Int)) (b : Int) : tb (q :: y) b = tb y b + if q.2 = b then 1 else 0 := by
  unfold tb; rw [List.filter_cons]
  by_cases h2 : q.2 = b <;> simp [h2]
theorem tb_app (x y : List (α × Int)) (b : Int) : tb (x ++ y) b = tb x b + tb y b := by simp [tb]
theorem tb_perm {x y : List (α × Int)} (h : x.Perm y) (b : Int) : tb x b = tb y b := (h.filter _).length_eq
theorem sum_tb {y : List (α × Int)} (hy : Bn y) : (bnds.map fun b => tb y b).sum = y.length := by
  induction y with
  | nil => rfl
  | cons q y ih =>
    have e : (fun b => tb (q :: y) b) = fun b => tb y b + (if q.2 = b then 1 else 0) := by funext b; exact tb_cons q y b
    rw [e, sum_add, ih fun r hr => hy r (List.mem_cons_of_mem _ hr), sum_one (hy q (by simp)), List.length_cons]
end
section
variable {α : Type} [DecidableEq α]
def nb (y : List (α × Int)) (a : α) (b : Int) : Nat := (y.filter fun q => decide (q.1 = a) && decide (q.2 = b)).length
def kn (y : List (α × Int)) (a : α) : Nat := (y.filter fun q => decide (q.1 = a)).length
def dsz (y : List (α × Int)) (a : α) : Nat := (bnds.filter fun b => decide (0 < nb y a b)).length
theorem nb_cons (q : α × Int) (y : List (α × Int)) (a : α) (b : Int) : nb (q :: y) a b = nb y a b + if q.1 = a ∧ q.2 = b then 1 else 0 := by
  unfold nb; rw [List.filter_cons]
  by_cases h1 : q.1 = a <;> by_cases h2 : q.2 = b <;> simp [h1, h2]
theorem kn_cons (q : α × Int) (y : List (α × Int)) (a : α) : kn (q :: y) a = kn y a + if q.1 = a then 1 else 0 := by
  unfold kn; rw [List.filter_cons]
  by_cases h1 : q.1 = a <;> simp [h1]
theorem nb_app (x y : List (α × Int)) (a : α) (b : Int) : nb (x ++ y) a b = nb x a b + nb y a b := by simp [nb]
theorem kn_app (x y : List (α × Int)) (a : α) : kn (x ++ y) a = kn x a + kn y a := by simp [kn]
theorem nb_perm {x y : List (α × Int)} (h : x.Perm y) (a : α) (b : Int) : nb x a b = nb y a b := (h.filter _).length_eq
theorem kn_perm {x y : List (α × Int)} (h : x.Perm y) (a : α) : kn x a = kn y a := (h.filter _).length_eq
theorem kn_cn (y : List (α × Int)) (a : α) : kn y a = cn (y.map Prod.fst) a := by
  unfold kn cn; rw [List.filter_map, List.length_map]; rfl
theorem kn_le (y : List (α × Int)) (a : α) : kn y a ≤ y.length := List.length_filter_le _ _
theorem nb_map {β : Type} [DecidableEq β] (f : α → β) : ∀ (y : List (α × Int)) (a : α) (b : Int), nb y a b ≤ nb (y.map fun q => (f q.1, q.2)) (f a) b
  | [], _, _ => Nat.le_refl _
  | q :: y, a, b => by
    have h := nb_map f y a b
    rw [List.map_cons, nb_cons, nb_cons]
    by_cases h1 : q.1 = a ∧ q.2 = b
    · rw [if_pos h1, if_pos ⟨by rw [h1.1], h1.2⟩]; omega
    · rw [if_neg h1]; omega
theorem nb_pos {y : List (α × Int)} {a : α} {b : Int} (h : (a, b) ∈ y) : 0 < nb y a b := List.length_pos_of_mem (a := (a, b)) (by rw [List.mem_filter]; simp [h])
theorem nb_in {y : List (α × Int)} {a : α} {b : Int} (h : 0 < nb y a b) : (a, b) ∈ y := by
  obtain ⟨q, hq⟩ := List.exists_mem_of_length_pos h
  rw [List.mem_filter] at hq
  simp only [Bool.and_eq_true, decide_eq_true_eq] at hq
  obtain ⟨h1, h2, h3⟩ := hq
  rwa [← h2, ← h3]
theorem dsz_mono {β : Type} [DecidableEq β] {y : List (α × Int)} {z : List (β × Int)} {a : α} {c : β} (h : ∀ b, 0 < nb y a b → 0 < nb z c b) : dsz y a ≤ dsz z c :=
  len_mono bnds fun b _ hb => by simp only [decide_eq_true_eq] at hb ⊢; exact h b hb
theorem dsz_le (y : List (α × Int)) (a : α) : dsz y a ≤ 10 := List.length_filter_le _ _
theorem dsz_pos {y : List (α × Int)} {a : α} {b : Int} (h : (a, b) ∈ y) (hb : b ∈ bnds) : 1 ≤ dsz y a :=
  List.length_pos_of_mem (a := b) (by rw [List.mem_filter]; simp [hb, nb_pos h])
theorem sum_nb {y : List (α × Int)} (hy : Bn y) (a : α) : (bnds.map fun b => nb y a b).sum = kn y a := by
  induction y with
  | nil => rfl
  | cons q y ih =>
    have e : (fun b => nb (q :: y) a b) = fun b => nb y a b + (if q.1 = a ∧ q.2 = b then 1 else 0) := by funext b; exact nb_cons q y a b
    rw [e, sum_add, ih fun r hr => hy r (List.mem_cons_of_mem _ hr), kn_cons]
    congr 1
    by_cases h1 : q.1 = a
    · simp only [h1, true_and, if_true]; exact sum_one (hy q (by simp))
    · simp only [h1, false_and, if_false]; decide
theorem dsz_sum (f : Int → Nat) : ∀ L : List Int, (L.filter fun b => decide (0 < f b)).length ≤ (L.map f).sum
  | [] => Nat.le_refl _
  | b :: L => by
    have h := dsz_sum f L
    rw [List.filter_cons]
    by_cases hb : 0 < f b
    · simp only [hb, decide_true, if_true, List.length_cons, List.map_cons, List.sum_cons]; omega
    · simp only [hb, decide_false, Bool.false_eq_true, if_false, List.map_cons, List.sum_cons]; omega
theorem dsz_kn {y : List (α × Int)} (hy : Bn y) (a : α) : dsz y a ≤ kn y a := by rw [← sum_nb hy a]; exact dsz_sum _ _
theorem dsz_perm {x y : List (α × Int)} (h : x.Perm y) (a : α) : dsz x a = dsz y a := by unfold dsz; congr 1; refine List.filter_congr fun b _ => ?_; rw [nb_perm h]
theorem dsz_twice (y : List (α × Int)) (a : α) : dsz (y ++ y) a = dsz y a := by
  unfold dsz; congr 1; refine List.filter_congr fun b _ => ?_
  rw [nb_app, decide_eq_decide]; omega
theorem dsz_snoc (y : List (α × Int)) (a : α) (b : Int) : dsz (y ++ [(a, b)]) a = dsz y a ∨ dsz (y ++ [(a, b)]) a = dsz y a + 1 := by
  have e : ∀ c, nb (y ++ [(a, b)]) a c = nb y a c + if b = c then 1 else 0 := fun c => by
    rw [nb_app, nb_cons]; simp [nb]
  unfold dsz
  have key : ∀ L : List Int, L.Nodup → ((L.filter fun c => decide (0 < nb (y ++ [(a, b)]) a c)).length = (L.filter fun c => decide (0 < nb y a c)).length ∨ ((L.filter fun c => decide (0 < nb (y ++ [(a, b)]) a c)).length = (L.filter fun c => decide (0 < nb y a c)).length + 1 ∧ b ∈ L)) := by
    intro L
    induction L with
    | nil => intro _; exact .inl rfl
    | cons c L ih =>
      intro hn
      obtain ⟨hc, hn2⟩ := List.nodup_cons.1 hn
      have hi := ih hn2
      rw [List.filter_cons, List.filter_cons, e c]
      by_cases hbc : b = c
      · subst hbc
        have hi2 := hi.resolve_right fun h => hc h.2
        rw [if_pos rfl]
        by_cases hp : 0 < nb y a b
        · left; simp [hp, hi2]
        · right; simp [hp, hi2]
      · rw [if_neg hbc, Nat.add_zero]
        by_cases hp : 0 < nb y a c
        · rcases hi with h | ⟨h, hm⟩
          · left; simp [hp, h]
          · right; simp [hp, h, hm]
        · rcases hi with h | ⟨h, hm⟩
          · left; simp [hp, h]
          · right; simp [hp, h, hm]
  rcases key bnds (by decide) with h | ⟨h, _⟩
  · exact .inl h
  · exact .inr h
/-- The least number of bands in a group. -/
def dlst (y : List (α × Int)) : Nat := (y.map fun q => dsz y q.1).foldl min y.length
/-- How far a group is from all. -/
def dd (y : List (α × Int)) (a : α) (b : Int) : Int := (nb y a b : Int) * y.length - (tb y b : Int) * kn y a
def dfar (y : List (α × Int)) (a : α) : Nat := (bnds.map fun b => (dd y a b).natAbs).sum
theorem abs_even (f : Int → Int) : ∀ L : List Int, ((L.map fun b => (f b).natAbs).sum : Int) % 2 = (L.map f).sum % 2
  | [] => rfl
  | b :: L => by
    have h := abs_even f L
    simp only [List.map_cons, List.sum_cons]
    rw [Int.natCast_add]; omega
theorem sum_cast (f : Int → Nat) : ∀ L : List Int, ((L.map f).sum : Int) = (L.map fun b => (f b : Int)).sum
  | [] => rfl
  | b :: L => by simp only [List.map_cons, List.sum_cons]; rw [Int.natCast_add, sum_cast f L]
theorem sum_lin (f g : Int → Int) (m n : Int) : ∀ L : List Int, (L.map fun b => f b * m - g b * n).sum = (L.map f).sum * m - (L.map g).sum * n
  | [] => by simp
  | b :: L => by
    simp only [List.map_cons, List.sum_cons, sum_lin f g m n L, Int.add_mul]; omega
theorem dd_sum {y : List (α × Int)} (hy : Bn y) (a : α) : (bnds.map fun b => dd y a b).sum = 0 := by
  unfold dd
  rw [sum_lin (fun b => (nb y a b : Int)) (fun b => (tb y b : Int)), ← sum_cast, ← sum_cast, sum_nb hy, sum_tb hy, Int.mul_comm]; omega
theorem dfar_even {y : List (α × Int)} (hy : Bn y) (a : α) : dfar y a % 2 = 0 := by
  have h := abs_even (fun b => dd y a b) bnds
  rw [dd_sum hy a] at h
  unfold dfar
  have e := sum_cast (fun b => (dd y a b).natAbs) bnds
  omega
theorem dfar_le {y : List (α × Int)} (hy : Bn y) (a : α) : dfar y a ≤ 2 * y.length * kn y a := by
  have h := sum_le (fun b => (dd y a b).natAbs) (fun b => nb y a b * y.length + tb y b * kn y a) bnds fun b _ => by
    simp only [dd]
    have e1 : ((nb y a b : Int) * y.length) = ((nb y a b * y.length : Nat) : Int) := by simp
    have e2 : ((tb y b : Int) * kn y a) = ((tb y b * kn y a : Nat) : Int) := by simp
    rw [e1, e2]; omega
  rw [sum_add] at h
  have m1 : ∀ (f : Int → Nat) (n : Nat) (L : List Int), (L.map fun b => f b * n).sum = (L.map f).sum * n := fun f n L => by
    induction L with
    | nil => simp
    | cons b L ih => simp only [List.map_cons, List.sum_cons, ih, Nat.add_mul]
  rw [m1, m1, sum_nb hy, sum_tb hy] at h
  unfold dfar
  have e : kn y a * y.length + y.length * kn y a = 2 * y.length * kn y a := by rw [Nat.mul_comm (kn y a), Nat.mul_assoc]; omega
  omega
theorem sum_zero (f : Int → Nat) : ∀ L : List Int, (∀ b ∈ L, f b = 0) → (L.map f).sum = 0
  | [], _ => rfl
  | b :: L, h => by simp only [List.map_cons, List.sum_cons]; rw [h b (by simp), sum_zero f L fun c hc => h c (List.mem_cons_of_mem _ hc)]
theorem dfar_all {y : List (α × Int)} {a : α} (h : kn y a = y.length) : dfar y a = 0 := by
  have hall : ∀ q ∈ y, q.1 = a := by
    have := List.length_filter_eq_length_iff.1 h
    intro q hq; simpa using this q hq
  refine sum_zero _ _ fun b _ => ?_
  have e : nb y a b = tb y b := by
    unfold nb tb; congr 1
    refine List.filter_congr fun q hq => ?_
    simp [hall q hq]
  rw [dd, e, h]; simp
theorem dd_twice (y : List (α × Int)) (a : α) (b : Int) : (dd (y ++ y) a b).natAbs = 4 * (dd y a b).natAbs := by
  have e : dd (y ++ y) a b = 4 * dd y a b := by
    unfold dd
    rw [nb_app, tb_app, kn_app, List.length_append]
    simp only [Int.natCast_add, Int.add_mul, Int.mul_add]; omega
  rw [e, Int.natAbs_mul]; rfl
theorem dfar_twice (y : List (α × Int)) (a : α) : dfar (y ++ y) a = 4 * dfar y a := by
  unfold dfar
  have m1 : ∀ (f : Int → Nat) (L : List Int), (L.map fun b => 4 * f b).sum = 4 * (L.map f).sum := fun f L => by
    induction L with
    | nil => simp
    | cons b L ih => simp only [List.map_cons, List.sum_cons, ih]; omega
  rw [← m1]; congr 1
  exact List.map_congr_left fun b _ => dd_twice y a b
end
end Go.Proofs.Ytaaljmmnfgghfaa
