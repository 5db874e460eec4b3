/- Contributions: what the walks of the laws lean on. -/
import Derived.Test.YtfaffpfjgipifaaRD2
import Derived.Test.YtfaffpfjgipifaaRM4
namespace Go.Proofs.Ytfaffpfjgipifaa
open Go.RowKit
section
variable {w w' : World} {B : Nat} {v u : Value} {xs ys : List Int}
theorem IsI.row {A : Option Addr} {n c : Nat} (h : IsI w (.slice A n c) xs) : Row w w.heap.size A (icells xs) ∧ n = xs.length ∧ n ≤ c ∧ c ≤ maxLen := by
  obtain ⟨A', c', e, h1, h2, h3⟩ := h
  injection e with e1 e2 e3
  subst e1 e3
  exact ⟨h3, e2, by omega, h2⟩
theorem IsI.sl (h : IsI w v xs) : ∃ A c, v = .slice A xs.length c := by obtain ⟨A, c, e, _⟩ := h; exact ⟨A, c, e⟩
theorem appI {ops : Array Oper} {rest : List Oper} {o : Oper} {a : Act} {Q : Exit → Act → World → Prop} (hw : Region.wanted o (yielded ops a.tmps) = true) (s x : Operand)
    (ho : o.op = .call { callee := .builtin .append, args := #[s, x], argTypes := #[TI, TI] }) (B : Nat) (v : Value) (xs : List Int) (hs : a.eval s = v) (hown : Own1 TN w B v (icells xs))
    (ys : List Int) (u : Value) (hx : a.eval x = u) (hu : IsI w u ys) (hlen : xs.length + ys.length ≤ 1000000) (hB : B ≤ w.heap.size)
    (h : ∀ v' w', Own1 TN w' B v' (icells (xs ++ ys)) → Below B w w' → wpList Try.prog ops Q rest (a.put o.dst v') w') : wpList Try.prog ops Q (o :: rest) a w := by
  obtain ⟨A, c, e, _, _, hr⟩ := hu
  refine app1 one_I hw s x ho B v (icells xs) hs hown w.heap.size A ys.length c (icells ys) (icells_len ys).symm (hx.trans e) hr (icells_one ys) (by rw [icells_len, icells_len]; exact hlen) hB fun v' w' h2 h3 _ => h v' w' (by rw [icells_app]; exact h2) ?_
  exact (Below.refl B w).grown h3 hB fun g hg => (hown.ob g hg).1
theorem stepI {ops : Array Oper} {o : Oper} {a : Act} {K : Act → World → Prop} {Q : Exit → Act → World → Prop} {E : Prop} (hgd : o.guard = none) (s x : Operand)
    (ho : o.op = .call { callee := .builtin .append, args := #[s, x], argTypes := #[TI, TI] }) (B : Nat) (v : Value) (xs : List Int) (hs : a.eval s = v) (hown : Own1 TN w B v (icells xs))
    (ys : List Int) (u : Value) (hx : a.eval x = u) (hu : IsI w u ys) (hlen : xs.length + ys.length ≤ 1000000) (hB : B ≤ w.heap.size)
    (h : ∀ v' w', Own1 TN w' B v' (icells (xs ++ ys)) → Below B w w' → K (a.put o.dst v') w') : if Region.wanted o (yielded ops a.tmps) = true then Oper.wp Try.prog o a w K Q else E := by
  obtain ⟨A, c, e, _, _, hr⟩ := hu
  refine step1 one_I hgd s x ho B v (icells xs) hs hown w.heap.size A ys.length c (icells ys) (icells_len ys).symm (hx.trans e) hr (icells_one ys) (by rw [icells_len, icells_len]; exact hlen) hB fun v' w' h2 h3 _ => h v' w' (by rw [icells_app]; exact h2) ?_
  exact (Below.refl B w).grown h3 hB fun g hg => (hown.ob g hg).1
/-- A literal slice. -/
theorem litI (w : World) (xs : List Int) (hl : xs.length ≤ 100) : IsI (w.alloc (.cells (icells xs).toArray TN)) (.slice (some ⟨w.heap.size, 0, none⟩) xs.length xs.length) xs :=
  ⟨some ⟨w.heap.size, 0, none⟩, xs.length, rfl, Nat.le_refl _, by simp only [maxLen]; omega, (row_lit w (icells xs).toArray TN).more (by simp)⟩
theorem lit1 (w : World) (x : Int) : IsI (w.alloc (.cells #[.int .i64 x] TN)) (.slice (some ⟨w.heap.size, 0, none⟩) 1 1) [x] := litI w [x] (by simp)
theorem lit2 (w : World) (x y : Int) : IsI (w.alloc (.cells #[.int .i64 x, .int .i64 y] TN)) (.slice (some ⟨w.heap.size, 0, none⟩) 2 2) [x, y] := litI w [x, y] (by simp)
theorem lit3 (w : World) (x y z : Int) : IsI (w.alloc (.cells #[.int .i64 x, .int .i64 y, .int .i64 z] TN)) (.slice (some ⟨w.heap.size, 0, none⟩) 3 3) [x, y, z] := litI w [x, y, z] (by simp)
/-- The first k of a slice. -/
theorem IsI.front {A : Option Addr} {n c : Nat} (h : IsI w (.slice A n c) xs) {k : Nat} (hk : k ≤ n) : IsI w (.slice A k c) (xs.take k) := by
  obtain ⟨hr, hn, hc, hm⟩ := h.row
  have hl : (xs.take k).length = k := by rw [List.length_take]; omega
  refine ⟨A, c, by rw [hl], by rw [hl]; omega, hm, ?_⟩
  have e : icells (xs.take k) = (icells xs).take k := by simp [icells]
  rw [e]; exact hr.front1 k
/-- The others of a slice. -/
theorem tailI (A : Option Addr) (n c k : Nat) (hk : k ≤ n) (hn : n ≤ c) : ∃ A2, (∀ w, (Instr.sliceAt TI (.slice A n c) (some (.int .i64 (k : Int))) none none).run Try.prog w = .ok (.slice A2 (n - k) (c - k)) w) ∧
    ∀ w xs, IsI w (.slice A n c) xs → IsI w (.slice A2 (n - k) (c - k)) (xs.drop k) := by
  obtain ⟨A2, h1, h2⟩ := sliceTailI A n c k hk hn
  refine ⟨A2, h1, fun w xs h => ?_⟩
  obtain ⟨hr, hl, hc, hm⟩ := h.row
  have hd : (xs.drop k).length = n - k := by rw [List.length_drop]; omega
  refine ⟨A2, c - k, by rw [hd], by rw [hd]; omega, by omega, ?_⟩
  have e : icells (xs.drop k) = (icells xs).drop k := by simp [icells]
  rw [e]; exact h2 w _ (icells xs) (by rw [icells_len]; exact hl.symm) hr
end
theorem below_app {w w' : World} {o : Obj} (h : Below w.heap.size (w.alloc o) w') : Below w.heap.size w w' := ((Below.refl _ _).alloc (Nat.le_refl _) _).trans h
theorem below_app2 {w w5 w6 : World} {o : Obj} (h : Below w.heap.size w w5) (h6 : Below w.heap.size (w5.alloc o) w6) : Below w.heap.size w w6 := (h.alloc h.size o).trans h6
theorem PB.sum {l : List Int} (h : PB l) : l.length ≤ 100 ∧ ∀ x ∈ l, -1000000 ≤ x ∧ x ≤ 1000000 := ⟨by have := h.1; omega, fun x hx => by have := h.2 x hx; omega⟩
theorem PB.len {l : List Int} (h : PB l) : l.length ≤ 21 := h.1
/-- len(more) % (len(list) + 1). -/
theorem modCut (m n : Nat) : ∃ k : Nat, (m : Int) % ((n : Int) + 1) = k ∧ k ≤ n := by
  have h1 := Int.emod_nonneg (m : Int) (show (n : Int) + 1 ≠ 0 by omega)
  have h2 := Int.emod_lt_of_pos (m : Int) (show (0 : Int) < (n : Int) + 1 by omega)
  exact ⟨((m : Int) % ((n : Int) + 1)).toNat, by omega, by omega⟩
end Go.Proofs.Ytfaffpfjgipifaa
