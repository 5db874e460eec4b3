/- Contracts of the program: a queue of visits. Contracts of the program: a table that fits: its cells, where it can change. Contracts of the program: where a ring goes on. Contracts of the program: the memory of a search for a ring. -/
import Derived.Test.YtobgceebolmfcaaDoorIM6
import Derived.Test.YtobgceebolmfcaaDoorBNA
import Derived.Laws.AppendOwn
import Derived.Test.YtobgceebolmfcaaDoorBMA
import Derived.Test.YtobgceebolmfcaaDoorTMK
import Derived.BigQuiet
import Derived.Deep.RegionHeld3
import Derived.StillTailTactics
namespace Go.Proofs.YtobgceebolmfcaaDoor
open Go.RowKit Go.Shelf
abbrev TV : TypeId := 145
abbrev TPV : TypeId := 135
abbrev TSV : TypeId := 141
abbrev TQ : TypeId := 143
abbrev ptV (b : Option Nat) : Value := .pointer (b.map fun k => ⟨k, 0, none⟩)
/-- A slice of one cell each, anywhere in a block of one's own. -/
def QRow (w : World) (B : Nat) (v : Value) (cs : List Value) : Prop :=
  (v = .slice none 0 0 ∧ cs = []) ∨ ∃ g o c cur, v = .slice (some ⟨g, o, none⟩) cs.length c ∧ B ≤ g ∧ w.heap[g]? = some (.cells cur TPV (0, 0)) ∧ cs.length ≤ c ∧ c ≤ maxLen ∧ o + c ≤ cur.size ∧ ∀ k u, cs[k]? = some u → cur[o + k]? = some u
theorem QRow.same {w w' : World} {B : Nat} {v : Value} {cs : List Value} (h : QRow w B v cs) (hk : ∀ k, v.ownBlock = some k → w'.heap[k]? = w.heap[k]?) : QRow w' B v cs := by
  rcases h with h | ⟨g, o, c, cur, rfl, h1, h2, h3⟩
  · exact .inl h
  · exact .inr ⟨g, o, c, cur, rfl, h1, (hk g rfl).trans h2, h3⟩
theorem QRow.ob {w : World} {B : Nat} {v : Value} {cs : List Value} (h : QRow w B v cs) : ∀ g, v.ownBlock = some g → B ≤ g ∧ g < w.heap.size := by
  intro k hk
  rcases h with ⟨rfl, _⟩ | ⟨g, o, c, cur, rfl, h1, h2, _⟩
  · cases hk
  · have e : some g = some k := hk
    injection e with e; subst e
    exact ⟨h1, (Array.getElem?_eq_some_iff.1 h2).1⟩
theorem QRow.nil (w : World) (B : Nat) : QRow w B (.slice none 0 0) [] := .inl ⟨rfl, rfl⟩
theorem QRow.form {w : World} {B : Nat} {v : Value} {cs : List Value} (h : QRow w B v cs) : ∃ A c, v = .slice A cs.length c ∧ cs.length ≤ c ∧ c ≤ maxLen ∧ (∀ k u, cs[k]? = some u → ∃ g o, A = some ⟨g, o, none⟩ ∧ w.cell? ⟨g, o + k, none⟩ = some u) := by
  rcases h with ⟨rfl, rfl⟩ | ⟨g, o, c, cur, rfl, h1, h2, h3, h4, h5, h6⟩
  · exact ⟨none, 0, rfl, Nat.le_refl _, by simp [maxLen], fun k u hu => by simp at hu⟩
  · exact ⟨_, c, rfl, h3, h4, fun k u hu => ⟨g, o, rfl, (cell_of_row w g (o + k) cur TPV (0, 0) h2).trans (h6 k u hu)⟩⟩
theorem info_pv : ∃ i : TypeInfo, Tryd.prog.info? TPV = some i ∧ i.zero = some (.pointer none) ∧ i.size = 1 ∧ i.bytes = 8 := info_parts (P := Tryd.prog) (e := TPV) (z := .pointer none) (size := 1) (bytes := 8) (by kernel_rfl)
theorem hsv : Tryd.prog.underlying TSV = some (.slice TPV) := Tryd.underlying141
set_option maxRecDepth 100000 in
theorem run_append_q (w : World) (ty : TypeId) (B : Nat) (v : Value) (cs : List Value) (hq : QRow w B v cs) (u : Value) (hu : u.oneCell' = true) (a : Addr) (ha : w.cell? a = some u) (hl : cs.length ≤ 1000) (hB : B ≤ w.heap.size) :
    ∃ v' w', (Builtin.append_ #[TSV, TSV] ty #[v, .slice (some a) 1 1]).run Tryd.prog w = .ok v' w' ∧ QRow w' B v' (cs ++ [u]) ∧ w.grownBy w' v.ownBlock ∧ (v'.ownBlock = v.ownBlock ∨ v'.ownBlock = some w.heap.size) := by
  obtain ⟨i, hi, hz, hs, hby⟩ := info_pv
  have hnews : ∀ j u', [u][j]? = some u' → w.cell? (a.add j) = some u' := by
    intro j u' hj
    match j, hj with
    | 0, hj => simp at hj; subst hj; simpa [Addr.add] using ha
  have h1 : ∀ u' ∈ [u], u'.oneCell' = true := by intro u' h; rw [List.mem_singleton.1 h]; exact hu
  have grown : ∀ (old : Nat) (row : Option Nat), w.grownBy (w.drew.alloc (.cells (cs.toArray ++ [u].toArray ++ Builtin.zeroCells (Value.pointer none).cells (grownCap w (cs.length + 1) old TPV - (cs.length + 1))) TPV)) row ∧
      QRow (w.drew.alloc (.cells (cs.toArray ++ [u].toArray ++ Builtin.zeroCells (Value.pointer none).cells (grownCap w (cs.length + 1) old TPV - (cs.length + 1))) TPV)) B (.slice (some ⟨w.heap.size, 0, none⟩) (cs.length + 1) (grownCap w (cs.length + 1) old TPV)) (cs ++ [u]) := fun old row => by
    have hge := grownCap_ge w (cs.length + 1) old TPV
    refine ⟨⟨rfl, rfl, rfl, by simp, fun k hk _ => (World.grownBy_alloc w.drew _ none).block k hk (by simp)⟩, .inr ⟨w.heap.size, 0, grownCap w (cs.length + 1) old TPV, _, by simp, hB, heap_alloc_new w.drew _, by simpa using hge, grownCap_le_maxLen w _ old TPV (by simp only [maxLen]; omega), ?_, fun k u' hk => ?_⟩⟩
    · have e1 : (Value.pointer none).cells.size = 1 := rfl
      simp only [Array.size_append, List.size_toArray, size_zeroCells, List.length_singleton, e1]
      omega
    · rw [Nat.zero_add]
      have hk2 : k < (cs ++ [u]).length := (List.getElem?_eq_some_iff.1 hk).1
      rw [Array.getElem?_append_left (by simpa using hk2)]
      simpa using hk
  rcases hq with ⟨rfl, rfl⟩ | ⟨g, o, c, cur, rfl, hbg, hg, hnc, hcm, hcs, hat⟩
  · have hr := run_append_nil (P := Tryd.prog) w TSV ty TPV i (.pointer none) hsv hi hz a 1 1 [u] (by rw [hs]; rfl) hnews (by omega) (by omega) (by rw [hby]; omega)
    obtain ⟨g1, g2⟩ := grown 0 (Value.ownBlock (.slice none 0 0))
    simp only [List.length_nil, Nat.zero_add, Array.empty_append] at g1 g2
    exact ⟨_, _, hr, by simpa using g2, by simpa using g1, .inr rfl⟩
  · by_cases hroom : cs.length + 1 ≤ c
    · have hf := run_firstCells_some (P := Tryd.prog) w 1 1 a 1 1 [u] rfl hnews
      have hst := run_storeCells_at Tryd.prog g (o + cs.length) TPV [u] 0 cur w hg (by simp; omega) h1
      simp only [Nat.add_zero] at hst
      refine ⟨.slice (some ⟨g, o, none⟩) (cs.length + 1) c, w.setRow g (cur.toList.take (o + cs.length) ++ u :: cur.toList.drop (o + cs.length + 1)).toArray, by simp [Builtin.append_, run_underlying hsv, sizeOf, typeInfo, hi, Builtin.lenOf, hroom, hf, hs, Addr.add_lit, hst], .inr ⟨g, o, c, _, by simp, hbg, setRow_heap w g cur _ TPV _ hg, by simpa using hroom, hcm, ?_, fun k u' hk => ?_⟩, ⟨rfl, rfl, rfl, by simp, fun k _ hk => setRow_other w g k _ (fun e => hk (by simp [Value.ownBlock, e]))⟩, .inl rfl⟩
      · simp only [List.size_toArray, List.length_append, List.length_take, List.length_drop, Array.length_toList, List.length_cons]
        omega
      · have hlt : (cur.toList.take (o + cs.length)).length = o + cs.length := by simp; omega
        simp only [List.getElem?_toArray]
        by_cases hkl : k < cs.length
        · rw [List.getElem?_append_left hkl] at hk
          rw [List.getElem?_append_left (by omega), List.getElem?_take, if_pos (by omega)]
          simpa using hat k u' hk
        · have hk2 := (List.getElem?_eq_some_iff.1 hk).1
          simp at hk2
          have : k = cs.length := by omega
          subst this
          rw [List.getElem?_append_right (Nat.le_refl _), Nat.sub_self] at hk
          rw [List.getElem?_append_right (by omega), hlt, Nat.sub_self]
          simpa using hk
    · have holds : ∀ j u', cs[j]? = some u' → w.cell? ((⟨g, o, none⟩ : Addr).add j) = some u' := fun j u' hj => by
        rw [Addr.add_lit, cell_of_row w g (o + j) cur TPV (0, 0) hg]; exact hat j u' hj
      have hr := run_append_grow (P := Tryd.prog) w TSV ty TPV i (.pointer none) hsv hi hz ⟨g, o, none⟩ cs.length c cs (by rw [hs]; omega) holds a 1 1 [u] (by rw [hs]; rfl) hnews (by omega) (by omega) (growslice_fits (by omega) (by rw [hby]; omega))
      obtain ⟨g1, g2⟩ := grown c (Value.ownBlock (.slice (some ⟨g, o, none⟩) cs.length c))
      exact ⟨_, _, hr, g2, g1, .inr rfl⟩
theorem wp_append_q {o : Oper} {a : Act} {w : World} {K : Act → World → Prop} {Q : Exit → Act → World → Prop} (s x : Operand)
    (ho : o.op = .call { callee := .builtin .append, args := #[s, x], argTypes := #[TSV, TSV] }) (B : Nat) (v : Value) (cs : List Value) (hs : a.eval s = v) (hq : QRow w B v cs)
    (u : Value) (hu : u.oneCell' = true) (ad : Addr) (hx : a.eval x = .slice (some ad) 1 1) (ha : w.cell? ad = some u) (hl : cs.length ≤ 1000) (hB : B ≤ w.heap.size)
    (h : ∀ v' w', QRow w' B v' (cs ++ [u]) → w.grownBy w' v.ownBlock → (v'.ownBlock = v.ownBlock ∨ v'.ownBlock = some w.heap.size) → K (a.put o.dst v') w') : o.wp Tryd.prog a w K Q := by
  obtain ⟨v', w', hrun, h2, h3, h4⟩ := run_append_q w o.type B v cs hq u hu ad ha hl hB
  unfold Oper.wp execOp
  simp only [ho, resolve, invoke, builtin, Sem.run_bind, Sem.run_pure, Result.andThen_ok, List.map_toArray, List.map_cons, List.map_nil, hs, hx, hrun]
  exact h v' w' h2 h3 h4
theorem appq {ops : Array Oper} {rest : List Oper} {o : Oper} {a : Act} {w : World} {Q : Exit → Act → World → Prop} (hw : Region.wanted o (yielded ops a.tmps) = true) (s x : Operand)
    (ho : o.op = .call { callee := .builtin .append, args := #[s, x], argTypes := #[TSV, TSV] }) (B : Nat) (v : Value) (cs : List Value) (hs : a.eval s = v) (hq : QRow w B v cs)
    (u : Value) (hu : u.oneCell' = true) (ad : Addr) (hx : a.eval x = .slice (some ad) 1 1) (ha : w.cell? ad = some u) (hl : cs.length ≤ 1000) (hB : B ≤ w.heap.size)
    (h : ∀ v' w', QRow w' B v' (cs ++ [u]) → w.grownBy w' v.ownBlock → (v'.ownBlock = v.ownBlock ∨ v'.ownBlock = some w.heap.size) → wpList Tryd.prog ops Q rest (a.put o.dst v') w') : wpList Tryd.prog ops Q (o :: rest) a w :=
  BigFrame.wpList_want hw fun _ hK => wp_append_q s x ho B v cs hs hq u hu ad hx ha hl hB fun v' w' h2 h3 h4 => hK _ _ (h v' w' h2 h3 h4)
/-- A queue in its block b, its array anywhere from B on. -/
structure QAt (w : World) (B b : Nat) (v : Value) (cs : List Value) : Prop where
  box : w.heap[b]? = some (.cells #[v] TQ (0, 0))
  row : QRow w B v cs
  ne : v.ownBlock ≠ some b
theorem QAt.lt {w : World} {B b : Nat} {v : Value} {cs : List Value} (h : QAt w B b v cs) : b < w.heap.size := (Array.getElem?_eq_some_iff.1 h.box).1
theorem QAt.same {w w' : World} {B b : Nat} {v : Value} {cs : List Value} (h : QAt w B b v cs) (hb : w'.heap[b]? = w.heap[b]?) (hk : ∀ k, v.ownBlock = some k → w'.heap[k]? = w.heap[k]?) : QAt w' B b v cs := ⟨hb.trans h.box, h.row.same hk, h.ne⟩
theorem QAt.below {w w' : World} {B b : Nat} {v : Value} {cs : List Value} (h : QAt w B b v cs) (hb : Below w.heap.size w w') : QAt w' B b v cs := h.same (hb.block b h.lt) fun k e => hb.block k (h.row.ob k e).2
/-- What a call leaves of a queue: all other blocks lie as they lay; new ones of its own. -/
structure QPut (w w' : World) (B b : Nat) (v v' : Value) (cs : List Value) : Prop where
  at_ : QAt w' B b v' cs
  os : w'.os = w.os
  tape : w'.tape = w.tape
  output : w'.output = w.output
  size : w.heap.size ≤ w'.heap.size
  block : ∀ k, k < w.heap.size → k ≠ b → v.ownBlock ≠ some k → w'.heap[k]? = w.heap[k]?
  own : v'.ownBlock = v.ownBlock ∨ ∀ k, v'.ownBlock = some k → w.heap.size ≤ k
set_option maxHeartbeats 1000000 in
theorem iPut_is (w : World) (B b : Nat) (v : Value) (cs : List Value) (h : QAt w B b v cs) (hl : cs.length ≤ 100) (hB : B ≤ w.heap.size) (p : Option Nat) :
    Calls Tryd.prog 110 #[.pointer (some ⟨b, 0, none⟩), ptV p] w fun e w' => e = .returned (.tuple #[]) ∧ ∃ v', QPut w w' B b v v' (cs ++ [ptV p]) := by
  obtain ⟨w1, hw1⟩ : ∃ w1, w1 = w.alloc (.cells #[ptV p] TPV) := ⟨_, rfl⟩
  have hb1 : Below w.heap.size w w1 := by rw [hw1]; exact (Below.refl _ _).alloc (Nat.le_refl _) _
  have HQ1 := Lib.hid (h.below hb1).row
  have HBX := Lib.hid (h.below hb1).box
  have HC1 := Lib.hid (show w1.cell? ⟨w.heap.size, 0, none⟩ = some (ptV p) by rw [hw1, cell_of_row _ _ 0 _ TPV (0, 0) (heap_alloc_new _ _)]; rfl)
  have HW1 := Lib.hid hw1.symm
  have hsz1 : w1.heap.size = w.heap.size + 1 := by rw [hw1]; simp
  have HS1 := Lib.hid hsz1
  have HB1 := Lib.hid hb1
  have HB := Lib.hid hB
  have HH := Lib.hid h
  have HONE := Lib.hid (show (ptV p).oneCell' = true by cases p <;> rfl)
  have c0 : w.cell? ⟨b, 0, none⟩ = some v := cell_of_row w b 0 _ _ _ h.box
  clear hb1 hw1 h hsz1 hB
  go_enter Tryd.func110, Tryd.ntmps110
  go_wp2_with (first
    | (at_builtin
       rw [HW1.out]
       refine appq rfl (.tmp 8) (.tmp 10) rfl B v cs rfl HQ1.out (ptV p) HONE.out ⟨w.heap.size, 0, none⟩ rfl HC1.out (by omega) (by have := HS1.out; have := HB.out; omega) ?_
       intro v4 w4 hq4 hg4 hn4
       have hbx4 : w4.heap[b]? = some (.cells #[v] TQ (0, 0)) := (hg4.block b (by have := HH.out.lt; have := HS1.out; omega) (fun e => HH.out.ne e.symm)).trans HBX.out
       have c4 : w4.cell? ⟨b, 0, none⟩ = some v := cell_of_row w4 b 0 _ _ _ hbx4
       have f4 : w4.frozen? ⟨b, 0, none⟩ = false := frozen_of_row w4 b 0 _ _ hbx4
       have HBX4 := Lib.hid hbx4
       have HQ4 := Lib.hid hq4
       have HG4 := Lib.hid hg4
       have HN4 := Lib.hid hn4
       obtain ⟨A4, n4, k4, e4⟩ : ∃ A n k, v4 = .slice A n k := by obtain ⟨A, k, e, _⟩ := hq4.form; exact ⟨A, _, k, e⟩
       subst e4
       clear hq4 hg4 hn4 hbx4)
    | fail)
  go_end0
  have hlt := HH.out.lt
  have hs1 := HS1.out
  have hne : (Value.slice A4 n4 k4).ownBlock ≠ some b := fun e => by
    rcases HN4.out with h | h
    · exact HH.out.ne (by rw [← h, e])
    · rw [e] at h; injection h with h; omega
  have hk4 : ∀ k, k ≠ b → (w4.setCell ⟨b, 0, none⟩ (.slice A4 n4 k4)).heap[k]? = w4.heap[k]? := fun k hk => Below.heap_setCell w4 ⟨b, 0, none⟩ _ k hk
  refine ⟨rfl, .slice A4 n4 k4, ⟨?_, ?_, hne⟩, HG4.out.os.trans HB1.out.os, HG4.out.tape.trans HB1.out.tape, HG4.out.output.trans HB1.out.output, ?_, fun k hk hkb hkv => ?_, ?_⟩
  · simp [World.setCell, Array.getElem?_modify, HBX4.out]
  · exact HQ4.out.same fun k e => hk4 k fun e2 => hne (by rw [e, e2])
  · have := HG4.out.size; simp [World.setCell]; omega
  · rw [hk4 k hkb, HG4.out.block k (by omega) (fun e => hkv e.symm), HB1.out.block k hk]
  · rcases HN4.out with h | h
    · exact .inl h
    · exact .inr fun k e => by rw [e] at h; injection h with h; omega
theorem sliceTailQ {w : World} {B : Nat} {u : Value} {cs : List Value} {g o c : Nat} {cur : Array Value} (hbg : B ≤ g) (hg : w.heap[g]? = some (.cells cur TPV (0, 0))) (hnc : cs.length + 1 ≤ c) (hcm : c ≤ maxLen) (hcs : o + c ≤ cur.size) (hat : ∀ k u', (u :: cs)[k]? = some u' → cur[o + k]? = some u') :
    ∃ A2 c2, (∀ X, (Instr.sliceAt TSV (.slice (some ⟨g, o, none⟩) (cs.length + 1) c) (some (.int .i64 1)) none none).run Tryd.prog X = .ok (.slice A2 cs.length c2) X) ∧ QRow w B (.slice A2 cs.length c2) cs ∧ (Value.slice A2 cs.length c2).ownBlock = some g := by
  refine ⟨if c = 1 then some ⟨g, o, none⟩ else some ⟨g, o + 1, none⟩, c - 1, fun X => ?_, ?_, ?_⟩
  · obtain ⟨i, hi, hz, hs, hby⟩ := info_pv
    have hu := hsv
    have he : Tryd.prog.elem TSV = TPV := by simp [Program.elem, hu]
    have e1 : (Value.int IntKind.i64 1) = .int .i64 ((1 : Nat) : Int) := rfl
    rw [e1, run_sliceAt_slice X TSV _ _ _ _ (by rw [he]; exact hu), run_slice_l X TSV (some ⟨g, o, none⟩) (cs.length + 1) c (by rw [he]; exact hu) .i64 ((1 : Nat) : Int) (by omega) (by omega)]
    rw [he]
    simp [sizeOf, typeInfo, hi, hs, sliced, Result.andThen, Addr.add_lit]
  · by_cases h1 : c = 1
    · rw [if_pos h1]
      have : cs = [] := List.eq_nil_of_length_eq_zero (by omega)
      subst this
      exact .inr ⟨g, o, c - 1, cur, rfl, hbg, hg, by simp, by omega, by omega, fun k u' hk => by simp at hk⟩
    · rw [if_neg h1]
      refine .inr ⟨g, o + 1, c - 1, cur, rfl, hbg, hg, by omega, by omega, by omega, fun k u' hk => ?_⟩
      have := hat (k + 1) u' (by simpa using hk)
      rw [show o + 1 + k = o + (k + 1) by omega]; exact this
  · by_cases h1 : c = 1
    · rw [if_pos h1]; rfl
    · rw [if_neg h1]; rfl
set_option maxHeartbeats 1000000 in
theorem iTake_no (w : World) (B b : Nat) (v : Value) (h : QAt w B b v []) :
    Calls Tryd.prog 111 #[.pointer (some ⟨b, 0, none⟩)] w fun e w' => e = .returned (.tuple #[.pointer none, .bool false]) ∧ w' = w := by
  obtain ⟨A, c, rfl, h1, h2, _⟩ := h.row.form
  have c0 : w.cell? ⟨b, 0, none⟩ = some (.slice A 0 c) := cell_of_row w b 0 _ _ _ h.box
  clear h h1 h2
  go_enter Tryd.func111, Tryd.ntmps111
  go_wp2
  refine bodyPost_ret (results_tmp2 rfl _ _ _) rfl ?_
  exact ⟨rfl, rfl⟩
set_option maxHeartbeats 1000000 in
theorem iTake_yes (w : World) (B b : Nat) (v : Value) (p : Option Nat) (cs : List Value) (h : QAt w B b v (ptV p :: cs)) (hl : cs.length ≤ 100) :
    Calls Tryd.prog 111 #[.pointer (some ⟨b, 0, none⟩)] w fun e w' => e = .returned (.tuple #[ptV p, .bool true]) ∧ ∃ v', QPut w w' B b v v' cs := by
  have HH := Lib.hid h
  rcases h.row with ⟨_, h0⟩ | ⟨g, o, c, cur, rfl, hbg, hg, hnc, hcm, hcs, hat⟩
  · cases h0
  rw [List.length_cons] at hnc
  obtain ⟨A2, c2, hsl, hq2, ho2⟩ := sliceTailQ hbg hg hnc hcm hcs hat
  have HQ2 := Lib.hid hq2
  have HO2 := Lib.hid ho2
  have c0 : w.cell? ⟨b, 0, none⟩ = some (.slice (some ⟨g, o, none⟩) (cs.length + 1) c) := cell_of_row w b 0 _ _ _ h.box
  have f0 : w.frozen? ⟨b, 0, none⟩ = false := frozen_of_row w b 0 _ _ h.box
  have c1 : w.cell? ⟨g, o, none⟩ = some (ptV p) := (cell_of_row w g o cur TPV (0, 0) hg).trans (hat 0 (ptV p) rfl)
  obtain ⟨n, hn⟩ : ∃ n, cs.length = n := ⟨_, rfl⟩
  have HN := Lib.hid hn
  rw [hn] at c0 hsl
  have hn0 : ¬ ((n : Int) + 1 = 0) := by omega
  have hn1 : (0 : Int) < (n : Int) + 1 := by omega
  have hn2 : 0 < n + 1 := by omega
  clear h hbg hg hnc hcm hcs hat hq2 ho2 hn
  go_enter Tryd.func111, Tryd.ntmps111
  go_wp2
  refine bodyPost_ret (results_tmp2 rfl _ _ _) rfl ?_
  have hne : (Value.slice A2 n c2).ownBlock ≠ some b := by
    have h1 := HO2.out
    have h2 := HH.out.ne
    have h3 : (Value.slice (some ⟨g, o, none⟩) (ptV p :: cs).length c).ownBlock = some g := rfl
    have h4 : (Value.slice A2 n c2).ownBlock = (Value.slice A2 cs.length c2).ownBlock := by rw [HN.out]
    rw [h4, h1, ← h3]; exact h2
  have hk4 : ∀ k, k ≠ b → (w.setCell ⟨b, 0, none⟩ (.slice A2 n c2)).heap[k]? = w.heap[k]? := fun k hk => Below.heap_setCell w ⟨b, 0, none⟩ _ k hk
  refine ⟨rfl, .slice A2 n c2, ⟨?_, ?_, hne⟩, rfl, rfl, rfl, by simp [World.setCell], fun k _ hkb _ => hk4 k hkb, .inl (by have h1 := HO2.out; rw [HN.out] at h1; exact h1)⟩
  · have := HH.out.box
    simp [World.setCell, Array.getElem?_modify, this]
  · have h5 := HQ2.out
    rw [HN.out] at h5
    exact h5.same fun k e => hk4 k fun e2 => hne (by rw [e, e2])
end Go.Proofs.YtobgceebolmfcaaDoor
namespace Go.Proofs.YtobgceebolmfcaaDoor
open Go.RowKit Go.Shelf
abbrev TF : TypeId := 129
abbrev TPl : TypeId := 98
/-- A table that fits, with its flags, by value; a place. -/
abbrev fitV (q d : Nat) (v u : Value) : Value := .agg #[.int .i64 q, .int .i64 d, v, u]
abbrev plV (k c : Int) : Value := .agg #[.int .i64 k, .int .i64 c]
theorem blkF {w : World} {g : Nat} {t : TypeId} {a b c d : Value} (h : w.heap[g]? = some (.cells #[a, b, c, d] t (0, 0))) :
    w.cell? ⟨g, 0, none⟩ = some a ∧ w.cell? ⟨g, 1, none⟩ = some b ∧ w.cell? ⟨g, 2, none⟩ = some c ∧ w.cell? ⟨g, 3, none⟩ = some d := by
  refine ⟨?_, ?_, ?_, ?_⟩ <;> simp [World.cell?, h]
/-- Two blocks at the beginning of a call: a table that fits, a place. -/
theorem two_fit (w : World) (a b : Array Value) (T T' : TypeId) : ∃ W2, W2 = (w.alloc (.cells a T)).alloc (.cells b T') ∧ Below w.heap.size w W2 ∧ W2.heap.size = w.heap.size + 1 + 1 ∧
    (∀ X, Below W2.heap.size W2 X → X.heap[w.heap.size]? = some (.cells a T (0, 0)) ∧ X.heap[w.heap.size + 1]? = some (.cells b T' (0, 0)) ∧ Below w.heap.size w X) := by
  obtain ⟨W2, hW⟩ : ∃ W2, W2 = (w.alloc (.cells a T)).alloc (.cells b T') := ⟨_, rfl⟩
  have hb : Below w.heap.size w W2 := by rw [hW]; exact ((Below.refl _ _).alloc (Nat.le_refl _) _).alloc (by simp) _
  have hz : W2.heap.size = w.heap.size + 1 + 1 := by rw [hW]; simp
  have k0 : W2.heap[w.heap.size]? = some (.cells a T (0, 0)) := by rw [hW]; exact keepI1
  have k1 : W2.heap[w.heap.size + 1]? = some (.cells b T' (0, 0)) := by rw [hW]; exact newI1
  exact ⟨W2, hW, hb, hz, fun X h => ⟨(h.block _ (by omega)).trans k0, (h.block _ (by omega)).trans k1, hb.trans (h.mono hb.size)⟩⟩
set_option maxHeartbeats 1000000 in
theorem iAt_is (W : World) (x : Tb) (v : Value) (hv : IsR W v x) (u : Value) (q d : Nat) (hq : x.length = q) (hr : ∀ k, k < q → (x.getD k []).length = d) (k c : Nat) (hk : k < q) (hc : c < d) (w : World) (hb : Below W.heap.size W w) :
    Calls Tryd.prog 108 #[fitV q d v u, plV k c] w (Back (.int .i64 (cF x k c)) W) := by
  obtain ⟨W2, hW, hb2, hz2, hf⟩ := two_fit w #[.int .i64 q, .int .i64 d, v, u] #[.int .i64 k, .int .i64 c] TF TPl
  obtain ⟨A, c0, rfl, _, _, hL⟩ := hv
  obtain ⟨b, o, b2, o2, c2, hA, hb1, hc1, _, hb3, hc2⟩ := hL.cell2 (i := k) (j := c) (by omega) (by rw [hr k hk]; exact hc)
  subst hA
  rw [hr k hk] at hc1
  rw [hq] at hW hf ⊢
  have hWX : Below W.heap.size W W2 := hb.trans (hb2.mono hb.size)
  have e1 := (hWX.cell (p := ⟨b, o + k, none⟩) hb1).trans hc1
  have e2 := (hWX.cell (p := ⟨b2, o2 + c, none⟩) hb3).trans hc2
  obtain ⟨y, hy⟩ : ∃ y, cF x k c = y := ⟨_, rfl⟩
  have hyy : (x.getD k []).getD c 0 = y := hy
  rw [hyy] at e2
  rw [hy]
  obtain ⟨g1, g2, _⟩ := hf W2 (Below.refl _ _)
  obtain ⟨p0, p1, p2, p3⟩ := blkF g1
  obtain ⟨q0, q1, _, _⟩ := blk2 g2
  have HW := Lib.hid hW.symm
  have HWX := Lib.hid hWX
  have hki : (k : Int) < (q : Int) := by omega
  have hci : (c : Int) < (d : Int) := by omega
  clear hb hW hb2 hz2 hf hWX g1 g2 hL hc1 hc2 hb1 hb3 hyy hy hr
  go_enter Tryd.func108, Tryd.ntmps108
  go_wp2
  rw [HW.out]
  go_quiet (fail)
  go_wp2
  go_ret
  exact ⟨rfl, below_draws HWX.out nq⟩
/-- A flag of a mask. -/
theorem IsM.flag {W : World} {u : Value} {m : Mk} (h : IsM W u m) {k c : Nat} (hk : k < m.length) (hc : c < (m.getD k []).length) :
    ∃ bm om cm b2 o2 c2, u = .slice (some ⟨bm, om, none⟩) m.length cm ∧ bm < W.heap.size ∧ W.cell? ⟨bm, om + k, none⟩ = some (.slice (some ⟨b2, o2, none⟩) (m.getD k []).length c2) ∧ b2 < W.heap.size ∧ W.cell? ⟨b2, o2 + c, none⟩ = some (.bool (hF m k c)) := by
  obtain ⟨A, cm, rfl, _, _, hL⟩ := h
  obtain ⟨bm, om, A1, c1, hA, hbm, f0, _, _, hr⟩ := hL.at_ k hk
  subst hA
  obtain ⟨b2, o2, hA2, hb2, f2⟩ := hr.bool_ c hc
  subst hA2
  exact ⟨bm, om, cm, b2, o2, c1, rfl, hbm, f0, hb2, f2⟩
set_option maxRecDepth 100000 in
set_option maxHeartbeats 2000000 in
theorem iCan_is (W : World) (x : Tb) (v : Value) (hv : IsR W v x) (m : Mk) (u : Value) (hu : IsM W u m) (q d : Nat) (hS : Shp x m q d) (k c : Nat) (hk : k < q) (hc : c < d) (s : Int) (hs : s = 1 ∨ s = -1) (hx : 0 ≤ cF x k c ∧ cF x k c ≤ 396) (g : Bool) (hg : (hF m k c && decide (0 ≤ cF x k c + s)) = g) (w : World) (hb : Below W.heap.size W w) :
    Calls Tryd.prog 109 #[fitV q d v u, plV k c, .int .i64 s] w (Back (.bool g) W) := by
  obtain ⟨W2, hW, hb2, hz2, hf⟩ := two_fit w #[.int .i64 q, .int .i64 d, v, u] #[.int .i64 k, .int .i64 c] TF TPl
  obtain ⟨bm, om, cm, b2, o2, c2, hum, hbm, f0, hbm2, f2⟩ := hu.flag (k := k) (c := c) (by rw [hS.ml]; exact hk) (by rw [hS.mr k hk]; exact hc)
  subst hum
  rw [hS.mr k hk] at f0
  rw [hS.ml] at hu hW hf ⊢
  have hWX : Below W.heap.size W W2 := hb.trans (hb2.mono hb.size)
  obtain ⟨fl, hfl⟩ : ∃ fl, hF m k c = fl := ⟨_, rfl⟩
  rw [hfl] at f2 hg
  have HW := Lib.hid hW.symm
  have HWX := Lib.hid hWX
  have hki : (k : Int) < (q : Int) := by omega
  have hci : (c : Int) < (d : Int) := by omega
  have HV := Lib.hid (hv.below hWX)
  have HTL := Lib.hid hS.tl
  have HTR := Lib.hid hS.tr
  have HFF := Lib.hid (show ∀ w' : World, Below W2.heap.size W2 w' → (Below W2.heap.size W2 w' ∧ (w'.cell? ⟨w.heap.size, 0, none⟩ = some (.int .i64 q) ∧ w'.cell? ⟨w.heap.size, 1, none⟩ = some (.int .i64 d) ∧ w'.cell? ⟨w.heap.size, 2, none⟩ = some v ∧ w'.cell? ⟨w.heap.size, 3, none⟩ = some (.slice (some ⟨bm, om, none⟩) q cm)) ∧
      (w'.cell? ⟨w.heap.size + 1, 0, none⟩ = some (.int .i64 k) ∧ w'.cell? ⟨w.heap.size + 1, 1, none⟩ = some (.int .i64 c)) ∧ w'.cell? ⟨bm, om + k, none⟩ = some (.slice (some ⟨b2, o2, none⟩) d c2) ∧ w'.cell? ⟨b2, o2 + c, none⟩ = some (.bool fl)) from fun w' h => by
    obtain ⟨g1, g2, _⟩ := hf w' h
    obtain ⟨q0, q1, _, _⟩ := blk2 g2
    have hWw := hWX.trans (h.mono hWX.size)
    exact ⟨h, blkF g1, ⟨q0, q1⟩, (hWw.cell (p := ⟨bm, om + k, none⟩) hbm).trans f0, (hWw.cell (p := ⟨b2, o2 + c, none⟩) hbm2).trans f2⟩)
  have b0 : Below W2.heap.size W2 W2.drew := (Below.refl _ _).drew
  obtain ⟨y, hy⟩ : ∃ y, cF x k c = y := ⟨_, rfl⟩
  have HY := Lib.hid hy
  rw [hy] at hx hg
  clear hb hW hb2 hz2 hf hWX hbm f0 hbm2 f2 hfl hy hS hv
  cases fl
  · have HG := Lib.hid (show g = false by rw [← hg]; rfl)
    obtain ⟨_, ⟨p0, p1, p2, p3⟩, ⟨q0, q1⟩, r0, r1⟩ := HFF.out W2 (Below.refl _ _)
    clear hg
    go_enter Tryd.func109, Tryd.ntmps109
    go_wp2
    rw [HW.out]
    go_quiet (fail)
    go_wp2
    go_ret
    exact ⟨by rw [HG.out]; rfl, below_draws HWX.out nq⟩
  · have HG := Lib.hid (show decide (0 ≤ y + s) = g by rw [← hg]; rfl)
    have hw0 : IntKind.i64.wrap (y + s) = y + s := by rw [IntKind.wrap_i64] <;> omega
    clear hg
    go_enter Tryd.func109, Tryd.ntmps109
    go_wp2
    rw [HW.out]
    go_region_held3 (fun w' => Below W2.heap.size W2 w' ∧ (w'.cell? ⟨w.heap.size, 0, none⟩ = some (.int .i64 q) ∧ w'.cell? ⟨w.heap.size, 1, none⟩ = some (.int .i64 d) ∧ w'.cell? ⟨w.heap.size, 2, none⟩ = some v ∧ w'.cell? ⟨w.heap.size, 3, none⟩ = some (.slice (some ⟨bm, om, none⟩) q cm)) ∧
      (w'.cell? ⟨w.heap.size + 1, 0, none⟩ = some (.int .i64 k) ∧ w'.cell? ⟨w.heap.size + 1, 1, none⟩ = some (.int .i64 c)) ∧ w'.cell? ⟨bm, om + k, none⟩ = some (.slice (some ⟨b2, o2, none⟩) d c2) ∧ w'.cell? ⟨b2, o2 + c, none⟩ = some (.bool true))
      (first | exact HFF.out _ (by assumption) | exact HFF.out _ b0)
      (first
        | (go_at_call 108
           refine (iAt_is W2 x v HV.out (.slice (some ⟨bm, om, none⟩) q cm) q d HTL.out HTR.out k c (by omega) (by omega) _ b0).mono ?_
           rintro e w3 ⟨rfl, h3⟩
           rw [HY.out]))
    go_wp2
    go_ret
    exact ⟨by rw [← HG.out]; simp, HWX.out.trans (h3.mono HWX.out.size)⟩
set_option maxHeartbeats 1000000 in
theorem iHasRow_any (q d k : Int) (w : World) : Calls Tryd.prog 105 #[szV q d, .int .i64 k] w fun e w' => e = .returned (.bool (decide (0 ≤ k) && decide (k < q))) ∧ Below w.heap.size w w' := by
  have hb := (Below.refl w.heap.size w).alloc (Nat.le_refl _) (.cells #[.int .i64 q, .int .i64 d] TG)
  by_cases h0 : 0 ≤ k
  · go_enter Tryd.func105, Tryd.ntmps105
    go_wp2
    go_ret
    exact ⟨retb (by simp [h0]), hb⟩
  · have hd : decide (0 ≤ k) = false := decide_eq_false h0
    go_enter Tryd.func105, Tryd.ntmps105
    go_wp2
    go_ret
    exact ⟨retb (by simp), hb⟩
set_option maxHeartbeats 1000000 in
theorem iHas_any (q d k c : Int) (g : Bool) (hg : ((decide (0 ≤ k) && decide (k < q)) && (decide (0 ≤ c) && decide (c < d))) = g) (w : World) :
    Calls Tryd.prog 101 #[szV q d, plV k c] w fun e w' => e = .returned (.bool g) ∧ Below w.heap.size w w' := by
  obtain ⟨W2, hW, hb2, hz2, hf⟩ := two_fit w #[.int .i64 q, .int .i64 d] #[.int .i64 k, .int .i64 c] TG TPl
  have HW := Lib.hid hW.symm
  have HF := Lib.hid (show ∀ X, Below W2.heap.size W2 X → (X.cell? ⟨w.heap.size, 0, none⟩ = some (.int .i64 q) ∧ X.cell? ⟨w.heap.size, 1, none⟩ = some (.int .i64 d)) ∧ (X.cell? ⟨w.heap.size + 1, 0, none⟩ = some (.int .i64 k) ∧ X.cell? ⟨w.heap.size + 1, 1, none⟩ = some (.int .i64 c)) ∧ Below w.heap.size w X from fun X h => by
    obtain ⟨g1, g2, g3⟩ := hf X h
    obtain ⟨a1, a2, _, _⟩ := blk2 g1
    obtain ⟨b1, b2, _, _⟩ := blk2 g2
    exact ⟨⟨a1, a2⟩, ⟨b1, b2⟩, g3⟩)
  obtain ⟨⟨p0, p1⟩, ⟨q0, q1⟩, _⟩ := HF.out W2 (Below.refl _ _)
  obtain ⟨r, hr⟩ : ∃ r, (decide (0 ≤ k) && decide (k < q)) = r := ⟨_, rfl⟩
  have HR := Lib.hid hr
  rw [hr] at hg
  have HG := Lib.hid hg
  clear hW hb2 hz2 hf hr hg
  go_enter Tryd.func101, Tryd.ntmps101
  go_wp2_with fail
  rw [HW.out]
  refine (iHasRow_any q d k W2).mono ?_
  rintro e w1 ⟨rfl, h1⟩
  rw [HR.out]
  have HB1 := Lib.hid (HF.out w1 h1).2.2
  obtain ⟨⟨p0, p1⟩, ⟨q0, q1⟩, _⟩ := HF.out w1 h1
  clear h1
  cases r
  · go_wp2
    go_ret
    exact ⟨retb (by rw [← HG.out]; rfl), HB1.out⟩
  · by_cases h0 : 0 ≤ c
    · go_wp2
      go_ret
      exact ⟨retb (by rw [← HG.out]; simp [h0]), HB1.out⟩
    · have hd : decide (0 ≤ c) = false := decide_eq_false h0
      go_wp2
      go_ret
      exact ⟨retb (by rw [← HG.out, hd]; rfl), HB1.out⟩
/-- A row of n places being filled: the first k are there. -/
def Pls (w : World) (g n : Nat) (f : Nat → Nat × Nat) (k : Nat) : Prop := ∃ cur, w.heap[g]? = some (.cells cur TPl (0, 0)) ∧ cur.size = n * 2 ∧ ∀ i, i < k → cur[i * 2]? = some (.int .i64 (f i).1) ∧ cur[i * 2 + 1]? = some (.int .i64 (f i).2)
theorem Pls.lt {w : World} {g n k : Nat} {f : Nat → Nat × Nat} (h : Pls w g n f k) : g < w.heap.size := by obtain ⟨cur, h1, _⟩ := h; exact (Array.getElem?_eq_some_iff.1 h1).1
theorem pls_made {w : World} {g n : Nat} {f : Nat → Nat × Nat} {xs : List Value} (h : w.ownsRow g TPl 2 (.slice (some ⟨g, 0, none⟩) n n) n xs) : Pls w g n f 0 := by
  rcases h.2 with ⟨h1, _⟩ | ⟨g', cap, cur, h1, _, h3, _, _, h4, _⟩
  · cases h1
  · injection h1 with a b c
    injection a with a
    injection a with a _ _
    subst a c
    exact ⟨cur, h3, h4, fun i hi => by omega⟩
theorem Pls.at_ {w : World} {g n k : Nat} {f : Nat → Nat × Nat} (h : Pls w g n f k) (hk : k < n) :
    ∃ v0 v1, w.cell? ⟨g, k * 2, none⟩ = some v0 ∧ w.cell? ⟨g, k * 2 + 1, none⟩ = some v1 ∧ w.frozen? ⟨g, k * 2, none⟩ = false ∧ w.frozen? ⟨g, k * 2 + 1, none⟩ = false := by
  obtain ⟨cur, h1, h2, _⟩ := h
  exact ⟨cur[k * 2]'(by omega), cur[k * 2 + 1]'(by omega), (cell_of_row w g _ cur TPl (0, 0) h1).trans (Array.getElem?_eq_getElem (by omega)), (cell_of_row w g _ cur TPl (0, 0) h1).trans (Array.getElem?_eq_getElem (by omega)), frozen_of_row w g _ cur TPl h1, frozen_of_row w g _ cur TPl h1⟩
theorem Pls.put {w : World} {g n k : Nat} {f : Nat → Nat × Nat} (h : Pls w g n f k) (hk : k < n) : Pls ((w.setCell ⟨g, k * 2, none⟩ (.int .i64 (f k).1)).setCell ⟨g, k * 2 + 1, none⟩ (.int .i64 (f k).2)) g n f (k + 1) := by
  obtain ⟨cur, h1, h2, h3⟩ := h
  refine ⟨(cur.setIfInBounds (k * 2) (.int .i64 (f k).1)).setIfInBounds (k * 2 + 1) (.int .i64 (f k).2), by simp [World.setCell, Array.getElem?_modify, h1], by simpa using h2, fun i hi => ?_⟩
  by_cases e : i = k
  · subst e
    refine ⟨?_, ?_⟩
    · rw [Array.getElem?_setIfInBounds_ne (by omega), Array.getElem?_setIfInBounds_self_of_lt (by omega)]
    · rw [Array.getElem?_setIfInBounds_self_of_lt (by simp; omega)]
  · obtain ⟨a1, a2⟩ := h3 i (by omega)
    refine ⟨?_, ?_⟩
    · rw [Array.getElem?_setIfInBounds_ne (by omega), Array.getElem?_setIfInBounds_ne (by omega)]; exact a1
    · rw [Array.getElem?_setIfInBounds_ne (by omega), Array.getElem?_setIfInBounds_ne (by omega)]; exact a2
theorem Pls.all {w : World} {g n k : Nat} {f : Nat → Nat × Nat} (h : Pls w g n f k) : ∀ i, i < k → w.cell? ⟨g, i * 2, none⟩ = some (.int .i64 (f i).1) ∧ w.cell? ⟨g, i * 2 + 1, none⟩ = some (.int .i64 (f i).2) := fun i hi => by
  obtain ⟨cur, h1, _, h3⟩ := h
  exact ⟨(cell_of_row w g _ cur TPl (0, 0) h1).trans (h3 i hi).1, (cell_of_row w g _ cur TPl (0, 0) h1).trans (h3 i hi).2⟩
/-- Places, handed back in new memory. -/
def OutPl (n : Nat) (f : Nat → Nat × Nat) (w : World) (e : Ending) (w' : World) : Prop :=
  ∃ g, e = .returned (.slice (some ⟨g, 0, none⟩) n n) ∧ w.heap.size ≤ g ∧ g < w'.heap.size ∧ (∀ i, i < n → w'.cell? ⟨g, i * 2, none⟩ = some (.int .i64 (f i).1) ∧ w'.cell? ⟨g, i * 2 + 1, none⟩ = some (.int .i64 (f i).2)) ∧ Below w.heap.size w w'
set_option maxRecDepth 100000 in
set_option maxHeartbeats 2000000 in
theorem iColT_is (q d : Nat) (r c : Nat) (hq : q ≤ 4) (_hd : d ≤ 4) (w : World) : Calls Tryd.prog 113 #[szV q d, plV r c] w (OutPl q (fun k => (k, c)) w) := by
  obtain ⟨W2, hW, hb2, hz2, hf⟩ := two_fit w #[.int .i64 q, .int .i64 d] #[.int .i64 r, .int .i64 c] TG TPl
  obtain ⟨i1, hi1, hy0, hy1, hy2⟩ := info_parts (P := Tryd.prog) (e := TPl) (z := plV 0 0) (size := 2) (bytes := 16) (by kernel_rfl)
  have HW := Lib.hid hW.symm
  have HZ2 := Lib.hid hz2
  have HF := Lib.hid (show ∀ X, Below W2.heap.size W2 X → (X.cell? ⟨w.heap.size, 0, none⟩ = some (.int .i64 q) ∧ X.cell? ⟨w.heap.size, 1, none⟩ = some (.int .i64 d)) ∧ (X.cell? ⟨w.heap.size + 1, 0, none⟩ = some (.int .i64 r) ∧ X.cell? ⟨w.heap.size + 1, 1, none⟩ = some (.int .i64 c)) ∧ Below w.heap.size w X from fun X h => by
    obtain ⟨g1, g2, g3⟩ := hf X h
    obtain ⟨a1, a2, _, _⟩ := blk2 g1
    obtain ⟨b1, b2, _, _⟩ := blk2 g2
    exact ⟨⟨a1, a2⟩, ⟨b1, b2⟩, g3⟩)
  obtain ⟨⟨p0, p1⟩, ⟨q0, q1⟩, _⟩ := HF.out W2 (Below.refl _ _)
  clear hW hb2 hz2 hf
  rw [← HW.out] at p0 p1 q0 q1
  go_enter Tryd.func113, Tryd.ntmps113
  go_wp2_with (at_make
               rw [HW.out]
               go_loud (refine wpList_make_full _ rfl _ _ 147 rfl W2.heap.size TPl i1 (plV 0 0) 2 Tryd.underlying147 hi1 hy0 hy1 _ _ _ _ q rfl rfl rfl rfl (by rw [hy2]; omega) (by simp only [maxLen]; omega) (Nat.le_refl _) ?_)
               intro w1 ho hg
               have HPL := Lib.hid (pls_made (f := fun k => (k, c)) ho)
               have HB1 := Lib.hid (show Below W2.heap.size W2 w1 from (Below.refl _ _).grown hg (Nat.le_refl _) (fun k hk => by cases hk))
               clear ho hg p0 p1 q0 q1)
  go_loopw [12] (fun i wr => ∃ k : Nat, k ≤ q ∧ i = .int .i64 k ∧ Pls wr W2.heap.size q (fun k => (k, c)) k ∧ Below W2.heap.size W2 wr) (fun i _ => q - (intOf i).toNat)
  case atStart => exact ⟨0, Nat.zero_le _, rfl, HPL.out, HB1.out⟩
  case round =>
    clear HPL HB1
    obtain ⟨k, hk, rfl, hp, hb⟩ := hrel
    have HP := Lib.hid hp
    have HB := Lib.hid hb
    obtain ⟨⟨p0, p1⟩, ⟨q0, q1⟩, _⟩ := HF.out wr hb
    by_cases hlt : k < q
    · have hki : (k : Int) < (q : Int) := by omega
      obtain ⟨v0, v1, m0, m1, f0, f1⟩ := hp.at_ hlt
      have HN := Lib.hid (hp.put hlt)
      have HBN := Lib.hid (fun a b : Value => (hb.setCell (p := ⟨W2.heap.size, k * 2, none⟩) (Nat.le_refl _) a).setCell (p := ⟨W2.heap.size, k * 2 + 1, none⟩) (Nat.le_refl _) b)
      clear hp hb
      go_wp2
      go_roundw
      case rel => exact ⟨k + 1, by omega, by go_num, HN.out, HBN.out _ _⟩
      case measure => simp [intOf]; omega
    · have hki : ¬ (k : Int) < (q : Int) := by omega
      obtain rfl : k = q := by omega
      clear hp hb
      go_wp2
      go_ret
      exact ⟨W2.heap.size, rfl, by have := HZ2.out; omega, HP.out.lt, HP.out.all, (HF.out wr HB.out).2.2⟩
set_option maxRecDepth 100000 in
set_option maxHeartbeats 2000000 in
theorem iRowT_is (q d : Nat) (r c : Nat) (_hq : q ≤ 4) (hd : d ≤ 4) (w : World) : Calls Tryd.prog 114 #[szV q d, plV r c] w (OutPl d (fun k => (r, k)) w) := by
  obtain ⟨W2, hW, hb2, hz2, hf⟩ := two_fit w #[.int .i64 q, .int .i64 d] #[.int .i64 r, .int .i64 c] TG TPl
  obtain ⟨i1, hi1, hy0, hy1, hy2⟩ := info_parts (P := Tryd.prog) (e := TPl) (z := plV 0 0) (size := 2) (bytes := 16) (by kernel_rfl)
  have HW := Lib.hid hW.symm
  have HZ2 := Lib.hid hz2
  have HF := Lib.hid (show ∀ X, Below W2.heap.size W2 X → (X.cell? ⟨w.heap.size, 0, none⟩ = some (.int .i64 q) ∧ X.cell? ⟨w.heap.size, 1, none⟩ = some (.int .i64 d)) ∧ (X.cell? ⟨w.heap.size + 1, 0, none⟩ = some (.int .i64 r) ∧ X.cell? ⟨w.heap.size + 1, 1, none⟩ = some (.int .i64 c)) ∧ Below w.heap.size w X from fun X h => by
    obtain ⟨g1, g2, g3⟩ := hf X h
    obtain ⟨a1, a2, _, _⟩ := blk2 g1
    obtain ⟨b1, b2, _, _⟩ := blk2 g2
    exact ⟨⟨a1, a2⟩, ⟨b1, b2⟩, g3⟩)
  obtain ⟨⟨p0, p1⟩, ⟨q0, q1⟩, _⟩ := HF.out W2 (Below.refl _ _)
  clear hW hb2 hz2 hf
  rw [← HW.out] at p0 p1 q0 q1
  go_enter Tryd.func114, Tryd.ntmps114
  go_wp2_with (at_make
               rw [HW.out]
               go_loud (refine wpList_make_full _ rfl _ _ 147 rfl W2.heap.size TPl i1 (plV 0 0) 2 Tryd.underlying147 hi1 hy0 hy1 _ _ _ _ d rfl rfl rfl rfl (by rw [hy2]; omega) (by simp only [maxLen]; omega) (Nat.le_refl _) ?_)
               intro w1 ho hg
               have HPL := Lib.hid (pls_made (f := fun k => (r, k)) ho)
               have HB1 := Lib.hid (show Below W2.heap.size W2 w1 from (Below.refl _ _).grown hg (Nat.le_refl _) (fun k hk => by cases hk))
               clear ho hg p0 p1 q0 q1)
  go_loopw [12] (fun i wr => ∃ k : Nat, k ≤ d ∧ i = .int .i64 k ∧ Pls wr W2.heap.size d (fun k => (r, k)) k ∧ Below W2.heap.size W2 wr) (fun i _ => d - (intOf i).toNat)
  case atStart => exact ⟨0, Nat.zero_le _, rfl, HPL.out, HB1.out⟩
  case round =>
    clear HPL HB1
    obtain ⟨k, hk, rfl, hp, hb⟩ := hrel
    have HP := Lib.hid hp
    have HB := Lib.hid hb
    obtain ⟨⟨p0, p1⟩, ⟨q0, q1⟩, _⟩ := HF.out wr hb
    by_cases hlt : k < d
    · have hki : (k : Int) < (d : Int) := by omega
      obtain ⟨v0, v1, m0, m1, f0, f1⟩ := hp.at_ hlt
      have HN := Lib.hid (hp.put hlt)
      have HBN := Lib.hid (fun a b : Value => (hb.setCell (p := ⟨W2.heap.size, k * 2, none⟩) (Nat.le_refl _) a).setCell (p := ⟨W2.heap.size, k * 2 + 1, none⟩) (Nat.le_refl _) b)
      clear hp hb
      go_wp2
      go_roundw
      case rel => exact ⟨k + 1, by omega, by go_num, HN.out, HBN.out _ _⟩
      case measure => simp [intOf]; omega
    · have hki : ¬ (k : Int) < (d : Int) := by omega
      obtain rfl : k = d := by omega
      clear hp hb
      go_wp2
      go_ret
      exact ⟨W2.heap.size, rfl, by have := HZ2.out; omega, HP.out.lt, HP.out.all, (HF.out wr HB.out).2.2⟩
end Go.Proofs.YtobgceebolmfcaaDoor
namespace Go.Proofs.YtobgceebolmfcaaDoor
open Go.RowKit Go.Shelf
/-- Where a ring goes on. -/
def onN (q d : Nat) (s0 : Int) (v : Vt) : Nat := if v.s = s0 then q else d
def onF (s0 : Int) (v : Vt) : Nat → Nat × Nat := if v.s = s0 then fun k => (k, v.c) else fun k => (v.r, k)
theorem onF_in {q d : Nat} {s0 : Int} {v : Vt} (hr : v.r < q) (hc : v.c < d) {i : Nat} (hi : i < onN q d s0 v) : (onF s0 v i).1 < q ∧ (onF s0 v i).2 < d ∧ Onw s0 v (onF s0 v i).1 (onF s0 v i).2 := by
  unfold onN at hi
  unfold onF Onw
  by_cases e : v.s = s0
  · rw [if_pos e] at hi ⊢; rw [if_pos e]; exact ⟨hi, hc, rfl⟩
  · rw [if_neg e] at hi ⊢; rw [if_neg e]; exact ⟨hr, hi, rfl⟩
theorem onF_on {q d : Nat} {s0 : Int} {v : Vt} {k c : Nat} (hk : k < q) (hc : c < d) (ho : Onw s0 v k c) : ∃ i, i < onN q d s0 v ∧ onF s0 v i = (k, c) := by
  unfold Onw at ho
  unfold onN onF
  by_cases e : v.s = s0
  · rw [if_pos e] at ho ⊢; rw [if_pos e]; exact ⟨k, hk, by rw [ho]⟩
  · rw [if_neg e] at ho ⊢; rw [if_neg e]; exact ⟨c, hc, by rw [ho]⟩
theorem onN_le {q d : Nat} (hq : q ≤ 4) (hd : d ≤ 4) (s0 : Int) (v : Vt) : onN q d s0 v ≤ 4 := by unfold onN; split <;> omega
/-- A visit in its block. -/
abbrev visO (v : Vt) (p : Value) : Obj := .cells #[.int .i64 v.r, .int .i64 v.c, .int .i64 v.s, p] TV (0, 0)
set_option maxRecDepth 100000 in
set_option maxHeartbeats 2000000 in
theorem iOnw_is (w : World) (q d : Nat) (hq : q ≤ 4) (hd : d ≤ 4) (v u : Value) (b : Nat) (n : Vt) (p : Value) (hbk : w.heap[b]? = some (visO n p)) (s0 : Int) :
    Calls Tryd.prog 112 #[fitV q d v u, .pointer (some ⟨b, 0, none⟩), .int .i64 s0] w (OutPl (onN q d s0 n) (onF s0 n) w) := by
  obtain ⟨wa, hwa, ba, hza, ka⟩ := one_blk w #[.int .i64 q, .int .i64 d, v, u] TF
  have HWa := Lib.hid hwa.symm
  have HBa := Lib.hid ba
  obtain ⟨p0, p1, _, _⟩ := blkF ka
  obtain ⟨v0, v1, v2, _⟩ := blkF ((ba.block b (Array.getElem?_eq_some_iff.1 hbk).1).trans hbk)
  obtain ⟨r, hr⟩ : ∃ r, n.r = r := ⟨_, rfl⟩
  obtain ⟨c, hc⟩ : ∃ c, n.c = c := ⟨_, rfl⟩
  obtain ⟨s, hs⟩ : ∃ s, n.s = s := ⟨_, rfl⟩
  have HN := Lib.hid (show (s = s0 → onN q d s0 n = q ∧ onF s0 n = fun k => (k, c)) ∧ (s ≠ s0 → onN q d s0 n = d ∧ onF s0 n = fun k => (r, k)) by
    unfold onN onF
    rw [hs, hr, hc]
    exact ⟨fun e => by rw [if_pos e, if_pos e]; exact ⟨rfl, rfl⟩, fun e => by rw [if_neg e, if_neg e]; exact ⟨rfl, rfl⟩⟩)
  rw [hr] at v0
  rw [hc] at v1
  rw [hs] at v2
  clear hwa ba ka hbk hr hc hs hza
  rw [← HWa.out] at v2
  by_cases e : s = s0
  · obtain ⟨h1, h2⟩ := HN.out.1 e
    have H1 := Lib.hid h1
    have H2 := Lib.hid h2
    clear h1 h2
    go_enter Tryd.func112, Tryd.ntmps112
    go_wp2
    rw [HWa.out]
    refine wp_region_still_tail 7 (by kernel_rfl) (by kernel_rfl) ?_
    simp only [List.take_succ_cons, List.take_zero, List.drop_succ_cons, List.drop_zero]
    repeat still_step
    try refine wpStill_nil ?_
    change wpList _ _ _ _ _ wa.drew
    go_wp2_with fail
    refine (iColT_is q d r c hq hd wa.drew).mono ?_
    rintro e w1 ⟨g, rfl, h1, h2, h3, h4⟩
    go_wp2
    go_ret
    rw [H1.out, H2.out]
    exact ⟨g, rfl, Nat.le_trans HBa.out.size h1, h2, h3, HBa.out.trans (Below.mono ((Below.refl wa.heap.size wa).drew.trans h4) HBa.out.size)⟩
  · obtain ⟨h1, h2⟩ := HN.out.2 e
    have H1 := Lib.hid h1
    have H2 := Lib.hid h2
    clear h1 h2
    go_enter Tryd.func112, Tryd.ntmps112
    go_wp2
    rw [HWa.out]
    refine wp_region_still_tail 7 (by kernel_rfl) (by kernel_rfl) ?_
    simp only [List.take_succ_cons, List.take_zero, List.drop_succ_cons, List.drop_zero]
    repeat still_step
    try refine wpStill_nil ?_
    change wpList _ _ _ _ _ wa.drew
    go_wp2_with fail
    refine (iRowT_is q d r c hq hd wa.drew).mono ?_
    rintro e w1 ⟨g, rfl, h1, h2, h3, h4⟩
    go_wp2
    go_ret
    rw [H1.out, H2.out]
    exact ⟨g, rfl, Nat.le_trans HBa.out.size h1, h2, h3, HBa.out.trans (Below.mono ((Below.refl wa.heap.size wa).drew.trans h4) HBa.out.size)⟩
end Go.Proofs.YtobgceebolmfcaaDoor
namespace Go.Proofs.YtobgceebolmfcaaDoor
open Go.RowKit Go.Shelf
abbrev TGB : TypeId := 79
/-- Visits from a pointer back to the beginning. -/
def HC (y : World) : Option Nat → List (Nat × Vt) → Prop
  | p, [] => p = none
  | p, (b, v) :: l => p = some b ∧ ∃ p', y.heap[b]? = some (visO v (ptV p')) ∧ HC y p' l
theorem HC.same {y y' : World} : ∀ {l : List (Nat × Vt)} {p : Option Nat}, HC y p l → (∀ x ∈ l, y'.heap[x.1]? = y.heap[x.1]?) → HC y' p l
  | [], _, h, _ => h
  | (b, v) :: l, p, h, hk => by
    obtain ⟨h1, p', h2, h3⟩ := h
    exact ⟨h1, p', (hk (b, v) List.mem_cons_self).trans h2, h3.same fun x hx => hk x (List.mem_cons_of_mem _ hx)⟩
/-- Memory in the search for a ring: the boxes of the table and of the place, what has been seen, the queue, the visits. -/
structure RM (w : World) (B T q d i j : Nat) (v u sv : Value) (sm : Mk) (vq : Value) (ns pend : List Nd) (y : World) : Prop where
  low : Below w.heap.size w y
  fb : y.heap[w.heap.size]? = some (.cells #[.int .i64 q, .int .i64 d, v, u] TF (0, 0))
  pb : y.heap[w.heap.size + 1]? = some (.cells #[.int .i64 i, .int .i64 j] TPl (0, 0))
  sb : y.heap[T]? = some (.cells #[.int .i64 q, .int .i64 d, sv] TGB (0, 0))
  sn : MineB y B T sv sm
  qu : QAt y (T + 2) (T + 1) vq (pend.map fun n => ptV (some n.blk))
  nd : ∀ n ∈ ns, y.heap[n.blk]? = some (visO n.v (ptV (n.rest.head?.map Prod.fst))) ∧ T + 2 ≤ n.blk ∧ vq.ownBlock ≠ some n.blk
  hB : w.heap.size + 2 ≤ B
  hT : B ≤ T
section
variable {w : World} {B T q d i j : Nat} {v u sv : Value} {sm sm' : Mk} {vq vq' : Value} {ns pend pend' : List Nd} {y y' : World}
theorem RM.below (h : RM w B T q d i j v u sv sm vq ns pend y) (hb : Below y.heap.size y y') : RM w B T q d i j v u sv sm vq ns pend y' := by
  have lt : ∀ {k : Nat} {o : Obj}, y.heap[k]? = some o → y'.heap[k]? = some o := fun hk => (hb.block _ (Array.getElem?_eq_some_iff.1 hk).1).trans hk
  exact ⟨h.low.trans (hb.mono h.low.size), lt h.fb, lt h.pb, lt h.sb, h.sn.below hb, h.qu.below hb, fun n hn => ⟨lt (h.nd n hn).1, (h.nd n hn).2⟩, h.hB, h.hT⟩
theorem RM.mark (h : RM w B T q d i j v u sv sm vq ns pend y) {gi c : Nat} {b : Value} (hg : B ≤ gi ∧ gi < T) (hm : MineB (y.setCell ⟨gi, c, none⟩ b) B T sv sm') : RM w B T q d i j v u sv sm' vq ns pend (y.setCell ⟨gi, c, none⟩ b) := by
  have hB := h.hB
  have hT := h.hT
  have ne : ∀ k, k ≠ gi → (y.setCell ⟨gi, c, none⟩ b).heap[k]? = y.heap[k]? := fun k hk => Below.heap_setCell y ⟨gi, c, none⟩ b k hk
  refine ⟨h.low.setCell (p := ⟨gi, c, none⟩) (by show w.heap.size ≤ gi; omega) b, (ne _ (by omega)).trans h.fb, (ne _ (by omega)).trans h.pb, (ne _ (by omega)).trans h.sb, hm, h.qu.same (ne _ (by omega)) fun k e => ne k (by have := (h.qu.row.ob k e).1; omega), fun n hn => ⟨(ne _ (by have := (h.nd n hn).2.1; omega)).trans (h.nd n hn).1, (h.nd n hn).2⟩, hB, hT⟩
theorem RM.sameq (h : RM w B T q d i j v u sv sm vq ns pend y) (p : QPut y y' (T + 2) (T + 1) vq vq' (pend'.map fun n => ptV (some n.blk))) : RM w B T q d i j v u sv sm vq' ns pend' y' := by
  have hB := h.hB
  have hT := h.hT
  have own : ∀ k, vq.ownBlock = some k → T + 2 ≤ k := fun k e => (h.qu.row.ob k e).1
  have lt : ∀ {k : Nat} {o : Obj}, k ≠ T + 1 → vq.ownBlock ≠ some k → y.heap[k]? = some o → y'.heap[k]? = some o := fun h1 h2 hk => (p.block _ (Array.getElem?_eq_some_iff.1 hk).1 h1 h2).trans hk
  have hTy := h.sn.1
  refine ⟨⟨p.os.trans h.low.os, p.tape.trans h.low.tape, p.output.trans h.low.output, Nat.le_trans h.low.size p.size, fun k hk => (p.block k (Nat.lt_of_lt_of_le hk h.low.size) (by omega) fun e => by have := own k e; omega).trans (h.low.block k hk)⟩,
    lt (by omega) (fun e => by have := own _ e; omega) h.fb, lt (by omega) (fun e => by have := own _ e; omega) h.pb, lt (by omega) (fun e => by have := own _ e; omega) h.sb,
    h.sn.same p.size fun k _ hk => p.block k (by omega) (by omega) fun e => by have := own k e; omega, p.at_, fun n hn => ?_, hB, hT⟩
  obtain ⟨h1, h2, h3⟩ := h.nd n hn
  refine ⟨lt (by omega) h3 h1, h2, fun e => ?_⟩
  rcases p.own with h4 | h4
  · rw [h4] at e; exact h3 e
  · have := h4 _ e
    have := (Array.getElem?_eq_some_iff.1 h1).1
    omega
theorem RM.more (h : RM w B T q d i j v u sv sm vq ns pend y) {n : Nd} (h1 : y.heap[n.blk]? = some (visO n.v (ptV (n.rest.head?.map Prod.fst)))) (h2 : T + 2 ≤ n.blk) (h3 : vq.ownBlock ≠ some n.blk) : RM w B T q d i j v u sv sm vq (ns ++ [n]) pend y :=
  ⟨h.low, h.fb, h.pb, h.sb, h.sn, h.qu, fun m hm => by
    rcases List.mem_append.1 hm with hm | hm
    · exact h.nd m hm
    · rw [List.mem_singleton.1 hm]; exact ⟨h1, h2, h3⟩, h.hB, h.hT⟩
theorem RM.chain (h : RM w B T q d i j v u sv sm vq ns pend y) (hp : ∀ n ∈ ns, n.rest = [] ∨ ∃ p ∈ ns, n.rest = p.chain) : ∀ (N : Nat) (n : Nd), n ∈ ns → n.rest.length ≤ N → HC y (some n.blk) n.chain ∧ ∀ x ∈ n.chain, T + 2 ≤ x.1
  | N, n, hn, hl => by
    obtain ⟨h1, h2, h3⟩ := h.nd n hn
    rcases hp n hn with hr | ⟨p, hpm, hr⟩
    · unfold Nd.chain
      rw [hr] at h1 ⊢
      exact ⟨⟨rfl, none, h1, rfl⟩, fun x hx => by rw [List.mem_singleton.1 hx]; exact h2⟩
    · match N with
      | 0 => rw [hr] at hl; simp [Nd.chain] at hl
      | N + 1 =>
        have hl2 : p.rest.length ≤ N := by rw [hr] at hl; simp [Nd.chain] at hl; omega
        obtain ⟨c1, c2⟩ := h.chain hp N p hpm hl2
        unfold Nd.chain
        rw [hr] at h1 ⊢
        refine ⟨⟨rfl, some p.blk, h1, c1⟩, fun x hx => ?_⟩
        rcases List.mem_cons.1 hx with rfl | hx
        · exact h2
        · exact c2 x hx
end
theorem iTake_is (w : World) (B b : Nat) (v : Value) (ps : List Nd) (h : QAt w B b v (ps.map fun n => ptV (some n.blk))) (hl : ps.length ≤ 100) :
    Calls Tryd.prog 111 #[.pointer (some ⟨b, 0, none⟩)] w fun e w' =>
      (ps = [] ∧ e = .returned (.tuple #[.pointer none, .bool false]) ∧ w' = w) ∨ (∃ n r, ps = n :: r ∧ e = .returned (.tuple #[ptV (some n.blk), .bool true]) ∧ ∃ v', QPut w w' B b v v' (r.map fun n => ptV (some n.blk))) := by
  cases ps with
  | nil => exact (iTake_no w B b v h).mono fun e w' hh => .inl ⟨rfl, hh⟩
  | cons n r => exact (iTake_yes w B b v (some n.blk) _ h (by simp at hl ⊢; omega)).mono fun e w' hh => .inr ⟨n, r, rfl, hh⟩
/-- A flag that is set. -/
theorem hF_set {sm : Mk} {k c : Nat} (hk : k < sm.length) (hc : c < (sm.getD k []).length) (k' c' : Nat) : hF (sm.set k ((sm.getD k []).set c true)) k' c' = if k' = k ∧ c' = c then true else hF sm k' c' := by
  unfold hF
  by_cases e : k = k'
  · subst e
    rw [gdy_eq _ _ _ hk]
    by_cases e2 : c = c'
    · subst e2; rw [gdy_eq _ _ _ hc, if_pos ⟨rfl, rfl⟩]
    · rw [gdy_ne _ _ _ e2, if_neg fun hh => e2 hh.2.symm]
  · rw [gdy_ne _ _ _ e, if_neg fun hh => e hh.1.symm]
/-- The size of what has been seen. -/
def Sq (sm : Mk) (q d : Nat) : Prop := sm.length = q ∧ ∀ k, k < q → (sm.getD k []).length = d
theorem Sq.set {sm : Mk} {q d k c : Nat} (h : Sq sm q d) (hk : k < q) : Sq (sm.set k ((sm.getD k []).set c true)) q d := by
  refine ⟨by rw [List.length_set]; exact h.1, fun k' hk' => ?_⟩
  by_cases e : k = k'
  · subst e; rw [gdy_eq _ _ _ (by rw [h.1]; exact hk), List.length_set]; exact h.2 k hk
  · rw [gdy_ne _ _ _ e]; exact h.2 k' hk'
theorem sq_zero (q d : Nat) : Sq (List.replicate q (zerowM d)) q d := ⟨by simp, fun k hk => by rw [getD_of _ _ (by simpa using hk)]; simp [zerowM]⟩
theorem hF_zero (q d k c : Nat) : hF (List.replicate q (zerowM d)) k c = false := by
  unfold hF
  rw [List.getD_eq_getElem?_getD (l := List.replicate q (zerowM d)), List.getElem?_replicate]
  split
  · simp only [Option.getD_some, zerowM]
    rw [List.getD_eq_getElem?_getD, List.getElem?_replicate]
    split <;> rfl
  · rfl
/-- What the search hands back. -/
def OutRing (w : World) (q d : Nat) (h : Nat → Nat → Bool) (x : Tf) (i j : Nat) (s0 : Int) (e : Ending) (w' : World) : Prop :=
  Below w.heap.size w w' ∧
  ((e = .returned (.tuple #[.pointer none, .bool false]) ∧ (s0 = 1 → ∀ z, FitF q d h x z → z i j ≤ x i j) ∧ (s0 = -1 → ∀ z, FitF q d h x z → x i j ≤ z i j)) ∨
   ∃ b l, e = .returned (.tuple #[.pointer (some ⟨b, 0, none⟩), .bool true]) ∧ HC w' (some b) l ∧ (∀ p ∈ l, w.heap.size ≤ p.1) ∧ Rng q d h x i j s0 (vs l))
/-- The state of the search, between two visits. -/
def RL (w : World) (B T q d i j : Nat) (v u sv : Value) (h : Nat → Nat → Bool) (x : Tf) (s0 : Int) (k : Nat) (last ok : Value) (y : World) : Prop :=
  ∃ sm vq don, Sq sm q d ∧ (∀ n ∈ don, Dne q d h x i s0 (hF sm) n) ∧
    ((ok = .bool false ∧ last = .pointer none ∧ RM w B T q d i j v u sv sm vq don [] y ∧ Sr q d h x i j s0 don (hF sm)) ∨
     (∃ n pend, ok = .bool true ∧ last = .pointer (some ⟨n.blk, 0, none⟩) ∧ don.length + k = 20 ∧ RM w B T q d i j v u sv sm vq (don ++ n :: pend) pend y ∧ Sr q d h x i j s0 (don ++ n :: pend) (hF sm)))
end Go.Proofs.YtobgceebolmfcaaDoor
