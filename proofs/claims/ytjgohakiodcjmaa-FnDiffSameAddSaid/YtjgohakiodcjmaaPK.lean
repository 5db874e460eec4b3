/- People counted in a map: the map's keys, and what the map tells; one more and one less, as the run does it. -/
import Derived.Test.YtjgohakiodcjmaaA4
import Derived.Test.YtjgohakiodcjmaaPF
import Derived.Maps.RangeWalk
import Derived.DeepKeys3
import Derived.KernelRfl
import Derived.WideKeyEntry
set_option maxRecDepth 100000
namespace Go.Proofs.Ytjgohakiodcjmaa
open Go.RowKit Go.Maps
open Go.ChangeMaps (setBlock heap_setBlock_same heap_setBlock_other)
abbrev PTK : TypeId := 43
abbrev PTI : TypeId := 3
def pkl (q : Pn) : Lit := .string (keyBytes [.int .i64 q.area, .int .i64 q.job, .int .i64 q.sex, .int .i64 q.pay])
def pkWf (q : Pn) : Prop := (Lit.int .i64 q.area).wf = true ∧ (Lit.int .i64 q.job).wf = true ∧ (Lit.int .i64 q.sex).wf = true ∧ (Lit.int .i64 q.pay).wf = true
theorem pkLaw : Keyed Try.prog PTK := Keyed.of_law (deep_law (m := 2) (by decide) (by kernel_rfl) (by kernel_rfl) (by kernel_rfl))
theorem pkCells : Try.prog.cellsOf PTK = 4 := by kernel_rfl
theorem pkInt1 : Try.prog.cellsOf PTI = 1 := by kernel_rfl
theorem pkSize : ∃ m, Try.prog.types.size = m + 2 := ⟨Try.prog.types.size - 2, by kernel_rfl⟩
theorem pkKey : Try.prog.keyType PTK = true := by kernel_rfl
theorem pkOf (q : Pn) (h : pkWf q) : keyOf Try.prog PTK q.val = some (pkl q) := by
  obtain ⟨m, hm⟩ := pkSize
  obtain ⟨h1, h2, h3, h4⟩ := h
  have hu := Try.underlying43
  have hi := Try.underlying3
  have hc := pkCells
  have hc1 := pkInt1
  unfold keyOf
  simp only [hu]
  rw [if_pos (by simp [pkKey, Value.formed, hu, hc]), hm]
  unfold Program.keyLits
  simp only [hu, Value.cells]
  rw [if_pos (by rw [hc]; exact ⟨rfl, by first | kernel_rfl | rfl | simp⟩)]
  simp [Program.keyLits, hi, hc1, h1, h2, h3, h4, pkl]
theorem pkl_inj {a b : Pn} (ha : pkWf a) (hb : pkWf b) (h : pkl a = pkl b) : a = b := by
  have h2 := pkLaw.inj (pkOf a ha) (h ▸ pkOf b hb)
  obtain ⟨a1, a2, a3, a4⟩ := a
  obtain ⟨b1, b2, b3, b4⟩ := b
  simpa using h2
theorem pkl_key (q : Pn) : WideAt.IsKeyLit (pkl q) := trivial
abbrev PDm := DataW Unit
abbrev pnum (n : Int) : PDm := .lit (.int .i64 n)
/-- What a map tells of the people that are counted in it. -/
structure PTells (D : PDm) (x : List Pn) : Prop where
  tidy : Tidy D
  at_ : ∀ q, pkWf q → D.atKey (pkl q) (pnum 0) = pnum (x.count q : Nat)
theorem ptells_none : PTells (.map []) [] := ⟨tidy_empty, fun _ _ => rfl⟩
theorem PTells.put {D : PDm} {x y : List Pn} (h : PTells D x) {q : Pn} (hq : pkWf q) {z : Int} (hz : z = (y.count q : Nat)) (ho : ∀ a, a ≠ q → y.count a = x.count a) : PTells (D.put (pkl q) (pnum z)) y := by
  refine ⟨h.tidy.put (pkl_key q) _, fun a ha => ?_⟩
  by_cases e : a = q
  · subst e
    rw [Maps.atKey_put_same h.tidy.isMap (pkl_key a), hz]
  · rw [Maps.atKey_put_other (fun e2 => e (pkl_inj ha hq e2)), h.at_ a ha, ho a e]
theorem PTells.more {D : PDm} {x : List Pn} (h : PTells D x) {q : Pn} (hq : pkWf q) {s : Nat} (hs : x.count q = s) : PTells (D.put (pkl q) (pnum ((s : Int) + 1))) (x ++ [q]) :=
  h.put hq (by rw [List.count_append, hs]; simp) fun a ha => by
    rw [List.count_append, List.count_singleton, if_neg (by simpa using fun e => ha e.symm)]; rfl
theorem PTells.less {D : PDm} {x : List Pn} (h : PTells D x) {q : Pn} (hq : pkWf q) {s : Nat} (hs : x.count q = s) (h0 : 0 < s) : PTells (D.put (pkl q) (pnum ((s : Int) - 1))) (x.erase q) :=
  h.put hq (by rw [List.count_erase_self, hs]; omega) fun a ha => by rw [List.count_erase_of_ne ha]
noncomputable abbrev pElem := plainElem (H := Unit) Try.prog PTI
/-- A block that is a map of people. -/
def Cnt (w : World) (b n : Nat) (x : List Pn) : Prop := ∃ D, w.ownsMap Try.prog PTK pElem b n D ∧ PTells D x
abbrev PTM : TypeId := 78
theorem pkLaw0 : WideMaps.KeyLaw Try.prog PTK := deep_law (m := 2) (by decide) (by kernel_rfl) (by kernel_rfl) (by kernel_rfl)
theorem pkZero (w : World) : (zeroValue PTI).run Try.prog w = .ok (.int .i64 0) w := by kernel_rfl
theorem pkMap : Try.prog.underlying PTM = some (.map PTK PTI) := Try.underlying78
theorem pkElem : Try.prog.underlying PTI = some (.int .i64) := Try.underlying3
/-- A map is what its block is. -/
theorem pk_block {w w' : World} {b n : Nat} {D : PDm} (h : w.ownsMap Try.prog PTK pElem b n D) (hb : w'.heap[b]? = w.heap[b]?) : w'.ownsMap Try.prog PTK pElem b n D := by
  obtain ⟨es, clock, h1, h2⟩ := h
  exact ⟨es, clock, hb.trans h1, h2⟩
theorem pk_grown {w : World} {b : Nat} {es : Array MapEntry} {clock : Nat} (hb : w.heap[b]? = some (.map es clock)) (o : Obj) : w.grownBy (setBlock w b o) (some b) :=
  ⟨rfl, rfl, rfl, by simp [setBlock], fun i _ hi => heap_setBlock_other hb _ (fun e => hi (by rw [e]))⟩
theorem pk_bump {w : World} {b n : Nat} {D : PDm} (h : w.ownsMap Try.prog PTK pElem b n D) (hn : n < maxLen) {q : Pn} (hq : pkWf q) {c z : Int} (hat : D.atKey (pkl q) (pnum 0) = pnum c) (hz : (Lit.int .i64 z).wf = true) :
    ∃ (v0 : Value) (st : Nat) (w4 w5 : World), (Instr.lookup PTM (.map (some b)) q.val false).run Try.prog w = .ok (.int .i64 c) w ∧ (Instr.lookup PTM (.map (some b)) q.val false).run Try.prog w4 = .ok (.int .i64 c) w4 ∧
      (Instr.mapEntry PTM (.map (some b)) q.val).run Try.prog w = .ok (.tuple #[v0, .int .i64 st]) w4 ∧ (Instr.entryStore PTM (.map (some b)) (.int .i64 st) (.int .i64 z)).run Try.prog w4 = .ok () w5 ∧
      w5.ownsMap Try.prog PTK pElem b (n + 1) (D.put (pkl q) (pnum z)) ∧ w.grownBy w4 (some b) ∧ w.grownBy w5 (some b) := by
  have hkey := pkOf q hq
  have look : ∀ (u : World) (n' : Nat) (D' : PDm), u.ownsMap Try.prog PTK pElem b n' D' → D'.atKey (pkl q) (pnum 0) = pnum c → (Instr.lookup PTM (.map (some b)) q.val false).run Try.prog u = .ok (.int .i64 c) u := fun u n' D' hu ha => by
    obtain ⟨c', hrun, hc', _⟩ := hu.lookup_int pkLaw pkMap pkElem (pkZero u) hkey
    rw [ha] at hc'
    have : c = c' := by simpa using hc'
    rw [this]; exact hrun
  obtain ⟨u5, hup, hown5, _⟩ := h.update pkLaw pkMap hn hkey (plainElem_int pkElem hz)
  have h0 := h
  obtain ⟨es, clock, hb, F, hs, hD⟩ := h
  obtain ⟨v0, st, es1, clock1, hent, _, hst⟩ := WideElems.entry_then_store pkLaw0 pkMap (fun u => pkZero u) hb F hkey
  have hb1 : (setBlock w b (.map es1 clock1)).heap[b]? = some (.map es1 clock1) := heap_setBlock_same hb _
  obtain ⟨es', clock', hst1, hst2⟩ := hst _ (.int .i64 z) hb1
  have e5 : u5 = setBlock w b (.map es' clock') := by rw [hup] at hst2; simpa using hst2
  refine ⟨v0, st, setBlock w b (.map es1 clock1), _, look w n D h0 hat, ?_, hent, hst1, pk_block hown5 ?_, ?_, ?_⟩
  · -- behind the entry the look-up finds what it found before
    rcases pkLaw.find w hkey es.toList F.keys with ⟨f1, f2⟩ | ⟨j, e0, f1, f2, f3⟩
    · -- a new entry: as a store of nought
      obtain ⟨u0, hup0, hown0, _⟩ := h0.update pkLaw pkMap hn hkey (plainElem_int (H := Unit) pkElem (show (Lit.int .i64 0).wf = true by decide))
      have g1 : (Instr.mapEntry PTM (.map (some b)) q.val).run Try.prog w = .ok (.tuple #[.int .i64 0, goInt clock]) u0 := by
        simp only [Instr.mapUpdate, run_underlying pkMap, MapKept.run_getObj_map hb, pkLaw.check w false hkey, f1, MapKept.run_setObj_map _ hb, Result.andThen, Sem.run_bind] at hup0
        simp only [Instr.mapEntry, run_underlying pkMap, MapKept.run_getObj_map hb, pkLaw.check w false hkey, f1, pkZero, MapKept.run_setObj_map _ hb, Result.andThen, Sem.run_bind, Sem.run_pure]
        simpa using hup0
      rw [hent] at g1
      have e0 : setBlock w b (.map es1 clock1) = u0 := by simpa using (Result.ok.inj g1).2
      rw [e0]
      refine look u0 _ _ hown0 ?_
      rw [Maps.atKey_put_same h0.isMap (pkl_key q)]
      obtain ⟨c', hrun, hc', _⟩ := h0.lookup_int pkLaw pkMap pkElem (pkZero w) hkey
      have g2 : (Instr.lookup PTM (.map (some b)) q.val false).run Try.prog w = .ok (.int .i64 0) w := by
        simp [Instr.lookup, run_underlying pkMap, MapKept.run_getObj_map hb, pkLaw.check w _ hkey, f1, Result.andThen]
      rw [g2] at hrun
      rw [hat] at hc'
      simp at hrun hc'
      rw [hc', ← hrun]
    · -- an entry that is there: the map stays what it is
      have hj : es[j]? = some e0 := by simpa using f2
      have g1 : (Instr.mapEntry PTM (.map (some b)) q.val).run Try.prog w = .ok (.tuple #[e0.val, goInt e0.born]) (setBlock w b (.map es clock)) := by
        have hsame : es.modify j (fun e => { e with key := q.val }) = es := by
          apply Array.ext'
          rw [Array.toList_modify, ChangeMaps.modify_eq_set _ _ _ _ f2]
          have : ({ e0 with key := q.val } : MapEntry) = e0 := by rw [← f3]
          rw [this]
          exact WideElems.set_self _ _ _ f2
        simp [Instr.mapEntry, run_underlying pkMap, MapKept.run_getObj_map hb, pkLaw.check w false hkey, f1, hj, f3, pkLaw.stays w hkey, hsame, MapKept.run_setObj_map _ hb, Result.andThen, setBlock]
      rw [hent] at g1
      have e0 : setBlock w b (.map es1 clock1) = setBlock w b (.map es clock) := by simpa using (Result.ok.inj g1).2
      rw [e0]
      refine look _ n D (pk_block h0 ?_) hat
      rw [heap_setBlock_same hb, hb]
  · rw [e5, heap_setBlock_same hb, heap_setBlock_same hb1]
  · exact pk_grown hb _
  · refine ⟨rfl, rfl, rfl, by simp [setBlock], fun i hi hne => ?_⟩
    have hib : i ≠ b := fun e => hne (by rw [e])
    rw [heap_setBlock_other hb1 _ hib, heap_setBlock_other hb _ hib]
theorem cnt_look {w : World} {b n : Nat} {x : List Pn} (h : Cnt w b n x) {p : Pn} (hp : pkWf p) : ∀ u : World, u.heap[b]? = w.heap[b]? →
    (Instr.lookup PTM (.map (some b)) (.agg #[.int .i64 p.area, .int .i64 p.job, .int .i64 p.sex, .int .i64 p.pay]) false).run Try.prog u = .ok (.int .i64 (x.count p : Nat)) u := fun u hu => by
  obtain ⟨D, hown, ht⟩ := h
  obtain ⟨c', hrun, hc', _⟩ := (pk_block hown hu).lookup_int pkLaw pkMap pkElem (pkZero u) (pkOf p hp)
  rw [ht.at_ _ hp] at hc'
  have e : ((x.count p : Nat) : Int) = c' := by simpa using hc'
  rw [e]; exact hrun
theorem Cnt.lt {w : World} {b n : Nat} {x : List Pn} (h : Cnt w b n x) : b < w.heap.size := by obtain ⟨D, hown, _⟩ := h; exact hown.lt
theorem Cnt.alloc {w : World} {b n : Nat} {x : List Pn} (h : Cnt w b n x) (o : Obj) : Cnt (w.alloc o) b n x := by obtain ⟨D, hown, ht⟩ := h; exact ⟨D, hown.alloc _, ht⟩
theorem Cnt.block {w w' : World} {b n : Nat} {x : List Pn} (h : Cnt w b n x) (hb : w'.heap[b]? = w.heap[b]?) : Cnt w' b n x := by obtain ⟨D, hown, ht⟩ := h; exact ⟨D, pk_block hown hb, ht⟩
theorem Cnt.wider {w : World} {b n n' : Nat} {x : List Pn} (h : Cnt w b n x) (hn : n ≤ n') : Cnt w b n' x := by obtain ⟨D, hown, ht⟩ := h; exact ⟨D, hown.mono hn, ht⟩
/-- People that are valid are kept as keys. -/
theorem pk_wf {l : List Pn} (h : okL l = true) {p : Pn} (hp : p ∈ l) : pkWf p := by
  obtain ⟨_, h2⟩ := okL_all h
  obtain ⟨h3, h4, h5, h6⟩ := okP_parts.1 (List.all_eq_true.1 h2 p hp)
  exact ⟨WalkArith.wf_i64 (by omega), WalkArith.wf_i64 (by omega), WalkArith.wf_i64 (by omega), WalkArith.wf_i64 (by omega)⟩
end Go.Proofs.Ytjgohakiodcjmaa
