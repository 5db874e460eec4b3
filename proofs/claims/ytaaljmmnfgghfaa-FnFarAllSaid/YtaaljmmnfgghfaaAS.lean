/- Contracts of the model: anonymity. -/
import Derived.Test.YtaaljmmnfgghfaaAM
import Derived.Test.YtaaljmmnfgghfaaGC
import Derived.Maps.AppendAt
namespace Go.Proofs.Ytaaljmmnfgghfaa
open Go.RowKit
/-- How many of the first ones are in small groups. -/
def dropAt (x : List Pn) (k : Int) (n : Nat) : Nat := ((x.take n).filter fun p => !bigP x k p).length
theorem dropAt_succ (x : List Pn) (k : Int) (n : Nat) (hn : n < x.length) : dropAt x k (n + 1) = dropAt x k n + if (sizeAt x n : Int) < k then 1 else 0 := by
  unfold dropAt
  rw [List.take_succ_eq_append_getElem hn, List.filter_append, List.length_append]
  congr 1
  have e : x.getD n p00 = x[n] := by rw [List.getD_eq_getElem?_getD, List.getElem?_eq_getElem hn]; rfl
  rw [sizeAt, e]
  by_cases h : (cn (keys x) (key x[n]) : Int) < k
  · have h2 : bigP x k x[n] = false := by rw [bigP, big, decide_eq_false_iff_not]; omega
    simp [h, h2]
  · have h2 : bigP x k x[n] = true := by rw [bigP, big, decide_eq_true_eq]; omega
    simp [h, h2]
theorem dropAt_all (x : List Pn) (k : Int) : dropAt x k x.length = dropN (keys x) k := by
  unfold dropAt dropN keys
  rw [List.take_length, List.filter_map, List.length_map]; rfl
theorem dropAt_le (x : List Pn) (k : Int) (n : Nat) : dropAt x k n ≤ n := by
  have h1 := List.length_filter_le (fun p => !bigP x k p) (x.take n)
  have h2 := List.length_take_le n x
  unfold dropAt; omega
/-- What a call with people, a ladder and a recoding begins with: the recoding lies in a block of its own. -/
theorem boxed {W w : World} (hb : Below W.heap.size W w) (r : Rc) : ∃ W1, W1 = w.alloc (.cells #[.int .i64 r.area, .int .i64 r.job, .int .i64 r.sex] TRc) ∧ Below W.heap.size W W1 ∧ w.heap.size < W1.heap.size ∧
    ∀ w', Below W1.heap.size W1 w' → w'.cell? ⟨w.heap.size, 0, none⟩ = some (.int .i64 r.area) ∧ w'.cell? ⟨w.heap.size, 1, none⟩ = some (.int .i64 r.job) ∧ w'.cell? ⟨w.heap.size, 2, none⟩ = some (.int .i64 r.sex) := by
  have hz : w.heap.size < (w.alloc (.cells #[.int .i64 r.area, .int .i64 r.job, .int .i64 r.sex] TRc)).heap.size := by simp
  refine ⟨_, rfl, hb.alloc hb.size _, hz, fun w' h => ⟨(h.cell (p := ⟨w.heap.size, 0, none⟩) hz).trans ?_, (h.cell (p := ⟨w.heap.size, 1, none⟩) hz).trans ?_, (h.cell (p := ⟨w.heap.size, 2, none⟩) hz).trans ?_⟩⟩ <;> simp [go_sem]
theorem run_append_people_at (w : World) (ty : TypeId) (base : Nat) (v : Value) (l : List Pn) (hown : Own w base v l) (Bd : Nat) (ad : Addr) (m d : Nat) (l2 : List Pn) (hm : m = l2.length) (hr : Row w Bd (some ad) (pcells l2))
    (hlen : l.length + l2.length ≤ 1000000) (hbase : base ≤ w.heap.size) :
    ∃ v' w', (Builtin.append_ #[TPS, TPS] ty #[v, .slice (some ad) m d]).run Try.prog w = .ok v' w' ∧ Own w' base v' (l ++ l2) ∧ w.grownBy w' v.ownBlock ∧ (v'.ownBlock = v.ownBlock ∨ v'.ownBlock = some w.heap.size) := by
  subst hm
  obtain ⟨i0, hi0, hz0, hz1, hz2⟩ := info_parts info_P
  have ht : Try.prog.underlying TPS = some (.slice TP) := Try.underlying23
  have hl : (pcells l2).length = l2.length * 4 := pcells_length l2
  have hcells : ∀ j u, (pcells l2)[j]? = some u → w.cell? (ad.add j) = some u := by
    intro j u hu
    rcases hr with hr | ⟨b, o, hA, hb, hc⟩
    · rw [hr] at hu; simp at hu
    · injection hA with hA
      subst hA
      rw [Addr.add_lit]; exact hc j u hu
  obtain ⟨v', w', hrun, h2, h3, _, h5⟩ := run_append_own_at (P := Try.prog) w base TPS ty TP i0 _ 4 32 ht hi0 hz0 hz1 hz2 rfl (by omega) v l.length (pcells l) hown ad l2.length d (pcells l2) hl hcells (pcells_one_cell l2) (by simp only [maxLen]; omega) (by omega) hbase
  exact ⟨v', w', hrun, by unfold Own; rw [pcells_app, List.length_append]; exact h2, h3, h5⟩
theorem app_people_at {ops : Array Oper} {rest : List Oper} {o : Oper} {a : Act} {w : World} {Q : Exit → Act → World → Prop} (hgd : o.guard = none) (s x : Operand)
    (ho : o.op = .call { callee := .builtin .append, args := #[s, x], argTypes := #[TPS, TPS] }) (base : Nat) (v : Value) (l : List Pn) (hs : a.eval s = v) (hown : Own w base v l)
    (Bd : Nat) (ad : Addr) (m d : Nat) (l2 : List Pn) (hm : m = l2.length) (hx : a.eval x = .slice (some ad) m d) (hr : Row w Bd (some ad) (pcells l2)) (hlen : l.length + l2.length ≤ 1000000) (hbase : base ≤ w.heap.size)
    (h : ∀ v' w', Own w' base v' (l ++ l2) → w.grownBy w' v.ownBlock → (v'.ownBlock = v.ownBlock ∨ v'.ownBlock = some w.heap.size) → wpList Try.prog ops Q rest (a.put o.dst v') w') : wpList Try.prog ops Q (o :: rest) a w :=
  wpList_plain hgd fun _ hK => by
    obtain ⟨v', w', hrun, h2, h3, h4⟩ := run_append_people_at w o.type base v l hown Bd ad m d l2 hm hr hlen hbase
    unfold Oper.wp execOp
    simp only [ho, resolve, invoke, builtin, Sem.run_bind, Sem.run_pure, Result.andThen_ok, List.map_toArray, List.map_cons, List.map_nil, hs, hx, hrun]
    exact hK _ _ (h v' w' h2 h3 h4)
/-- The kept ones among the first. -/
def keepTo (x : List Pn) (k : Int) (n : Nat) : List Pn := (x.take n).filter (bigP x k)
theorem keepTo_succ (x : List Pn) (k : Int) (n : Nat) (hn : n < x.length) : keepTo x k (n + 1) = keepTo x k n ++ if k ≤ (sizeAt x n : Int) then [x[n]] else [] := by
  unfold keepTo
  rw [List.take_succ_eq_append_getElem hn, List.filter_append]
  congr 1
  have e : x.getD n p00 = x[n] := by rw [List.getD_eq_getElem?_getD, List.getElem?_eq_getElem hn]; rfl
  rw [sizeAt, e]
  by_cases h : k ≤ (cn (keys x) (key x[n]) : Int)
  · rw [if_pos h, List.filter_cons, if_pos (by rw [bigP, big, decide_eq_true_eq]; exact h)]; rfl
  · rw [if_neg h, List.filter_cons, if_neg (by rw [bigP, big, decide_eq_true_eq]; exact h)]; rfl
theorem keepTo_all (x : List Pn) (k : Int) : keepTo x k x.length = keepP x k := by unfold keepTo keepP; rw [List.take_length]
theorem keepTo_len (x : List Pn) (k : Int) (n : Nat) : (keepTo x k n).length ≤ n := by
  have h1 := List.length_filter_le (bigP x k) (x.take n)
  have h2 := List.length_take_le n x
  unfold keepTo; omega
/-- People of one's own while the block of others grows. -/
theorem InP.aside {w w' : World} {B T : Nat} {v y : Value} {l : List Pn} (h : InP w B T v l) (hg : w.grownBy w' y.ownBlock) (hy : ∀ k, y.ownBlock = some k → k < B ∨ T ≤ k) : InP w' B T v l :=
  ⟨Nat.le_trans h.1 hg.size, h.2.1.same fun k e => hg.block k (by have := (World.ownsRow.lt h.2.1 k e).2; exact this) (fun e2 => by
    have h1 := (World.ownsRow.lt h.2.1 k e).1
    have h2 := h.2.2 k e
    rcases hy k e2.symm with h3 | h3 <;> omega), h.2.2⟩
end Go.Proofs.Ytaaljmmnfgghfaa
