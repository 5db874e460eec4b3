/- Words for 'append(append([]Person{}, list...), p)' in a drawn region. -/
import Derived.Test.YtbbgakbobefplaaIP
namespace Go.Proofs.Ytbbgakbobefplaa
open Go.RowKit
abbrev lit1 (p : Pn) : Obj := .cells #[.int .i64 p.area, .int .i64 p.job, .int .i64 p.sex, .int .i64 p.pay] TP
theorem rowA {w : World} {g Bd : Nat} {p : Pn} (h : w.heap[g]? = some (lit1 p)) (hg : g < Bd) : Row w Bd (some ⟨g, 0, none⟩) (pcells [p]) := by
  right
  refine ⟨g, 0, rfl, hg, fun j u hu => ?_⟩
  rw [Nat.zero_add, cell_of_row w g j _ _ _ h, ← hu]
  simp [pcells, Pn.cells]
theorem ownA {w : World} (p : Pn) : Own ((w.alloc (lit1 p)).alloc (.cells #[] TP)) w.heap.size (.slice (some ⟨w.heap.size + 1, 0, none⟩) 0 0) [] := by
  have h := World.ownsRow_made (base := w.heap.size) (e := TP) (size := 4) (w.alloc (lit1 p)) #[] 0 (by simp) (by simp [maxLen]) rfl
  have e : (w.alloc (lit1 p)).heap.size = w.heap.size + 1 := by simp
  rw [e] at h
  exact h
theorem keepA {w w' : World} {row : Option Nat} {g : Nat} {o : Obj} (h : w.heap[g]? = some o) (hg : w.grownBy w' row) (hne : some g ≠ row) : w'.heap[g]? = some o :=
  (hg.block g (Array.getElem?_eq_some_iff.1 h).1 hne).trans h
theorem Own.isP' {w : World} {B : Nat} {v : Value} {l : List Pn} (h : Own w B v l) : IsP w v l := by
  obtain ⟨A, c, hv, h1, h2, h3, _⟩ := h.form
  exact ⟨A, c, hv, h1, h2, h3⟩
theorem Row.cutA {w : World} {B : Nat} {A : Option Addr} {l : List Pn} {c k : Nat} (h : Row w B A (pcells l)) (hk : k ≤ l.length) (hc : l.length ≤ c) :
    Row w B (if c = k then A else A.map (·.add (k * 4))) (pcells (l.drop k)) := by
  by_cases hkl : k = l.length
  · left; rw [List.drop_eq_nil_of_le (by omega)]; rfl
  · rcases h with h | ⟨b, o, rfl, hb, hcell⟩
    · have := pcells_length l; rw [h] at this; simp at this; omega
    · right
      rw [if_neg (by omega)]
      refine ⟨b, o + k * 4, by simp [Addr.add_lit], hb, fun j u hu => ?_⟩
      rw [Nat.add_assoc]
      refine hcell (k * 4 + j) u ?_
      rw [← hu]
      have e : pcells (l.drop k) = (pcells l).drop (k * 4) := by
        have h1 : pcells l = pcells (l.take k) ++ pcells (l.drop k) := by simp only [pcells, ← List.flatMap_append, List.take_append_drop]
        rw [h1, List.drop_left' (by rw [pcells_length, List.length_take]; omega)]
      rw [e, List.getElem?_drop]
theorem Row.frontA {w : World} {B : Nat} {A : Option Addr} {l : List Pn} {k : Nat} (h : Row w B A (pcells l)) : Row w B A (pcells (l.take k)) := by
  rcases h with h | ⟨b, o, rfl, hb, hcell⟩
  · left
    have := pcells_length l; rw [h] at this; simp at this
    have hn : l = [] := List.eq_nil_of_length_eq_zero (by omega)
    rw [hn]; simp [pcells]
  · right
    refine ⟨b, o, rfl, hb, fun j u hu => hcell j u ?_⟩
    have h1 : pcells l = pcells (l.take k) ++ pcells (l.drop k) := by simp only [pcells, ← List.flatMap_append, List.take_append_drop]
    rw [h1, List.getElem?_append_left (List.getElem?_eq_some_iff.1 hu).1]; exact hu
/-- The cut list[k:], its address under one name. -/
theorem sliceTailA (B : Option Addr) (n d k : Nat) (hk : k ≤ n) (hn : n ≤ d) : ∃ B2, (∀ w, (Instr.sliceAt TPS (.slice B n d) (some (.int .i64 k)) none none).run Try.prog w = .ok (.slice B2 (n - k) (d - k)) w) ∧
    ∀ W Bd l, l.length = n → Row W Bd B (pcells l) → Row W Bd B2 (pcells (l.drop k)) := by
  refine ⟨if d = k then B else B.map (·.add (k * 4)), fun w => ?_, fun W Bd l hl hr => hr.cutA (by omega) (by omega)⟩
  obtain ⟨i0, hi0, _, hz1, _⟩ := info_parts info_P
  have hu : Try.prog.underlying TPS = some (.slice TP) := Try.underlying23
  have he : Try.prog.elem TPS = TP := by simp [Program.elem, hu]
  rw [run_sliceAt_slice w TPS _ _ _ _ (by rw [he]; exact hu), run_slice_l w TPS B n d (by rw [he]; exact hu) .i64 (k : Int) (by omega) (by omega)]
  rw [he]
  simp [sizeOf, typeInfo, hi0, hz1, sliced, Result.andThen]
theorem modCutA (m n : Nat) : ∃ k : Nat, (m : Int) % ((n : Int) + 1) = k ∧ k ≤ n :=
  ⟨m % (n + 1), by simp, by have := Nat.mod_lt m (show 0 < n + 1 by omega); omega⟩
theorem appP {ops : Array Oper} {rest : List Oper} {o : Oper} {a : Act} {w : World} {Q : Exit → Act → World → Prop} (hw : Region.wanted o (yielded ops a.tmps) = true) (s x : Operand)
    (ho : o.op = .call { callee := .builtin .append, args := #[s, x], argTypes := #[TPS, TPS] }) (base : Nat) (v : Value) (l : List Pn) (hs : a.eval s = v) (hown : Own w base v l)
    (Bd : Nat) (B : Option Addr) (m d : Nat) (l2 : List Pn) (hm : m = l2.length) (hx : a.eval x = .slice B m d) (hr : Row w Bd B (pcells l2)) (hlen : l.length + l2.length ≤ 1000000) (hbase : base ≤ w.heap.size)
    (h : ∀ v' w', Own w' base v' (l ++ l2) → w.grownBy w' v.ownBlock → wpList Try.prog ops Q rest (a.put o.dst v') w') : wpList Try.prog ops Q (o :: rest) a w :=
  BigFrame.wpList_want hw fun _ hK => wp_append_people s x ho base v l hs hown Bd B m d l2 hm hx hr hlen hbase fun v' w' h2 h3 => hK _ _ (h v' w' h2 h3)
end Go.Proofs.Ytbbgakbobefplaa
