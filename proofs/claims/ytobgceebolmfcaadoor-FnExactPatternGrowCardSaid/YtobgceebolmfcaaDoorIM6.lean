/- Contracts of the program: new tables of zeros, new masks. -/
import Derived.Test.YtobgceebolmfcaaDoorIM4
import Derived.Test.YtobgceebolmfcaaDoorTS4
namespace Go.Proofs.YtobgceebolmfcaaDoor
open Go.RowKit Go.Shelf
/-- Two blocks at the beginning of a call: a size, a table with its size. -/
theorem two_size (w : World) (a b x y z : Value) (T T' : TypeId) : ∃ W2, W2 = (w.alloc (.cells #[a, b] T)).alloc (.cells #[x, y, z] T') ∧ Below w.heap.size w W2 ∧ W2.heap.size = w.heap.size + 1 + 1 ∧
    (∀ X, Below W2.heap.size W2 X → X.heap[w.heap.size]? = some (.cells #[a, b] T (0, 0)) ∧ X.heap[w.heap.size + 1]? = some (.cells #[x, y, z] T' (0, 0)) ∧ Below w.heap.size w X) := by
  obtain ⟨W2, hW⟩ : ∃ W2, W2 = (w.alloc (.cells #[a, b] T)).alloc (.cells #[x, y, z] T') := ⟨_, rfl⟩
  have hb : Below w.heap.size w W2 := by rw [hW]; exact ((Below.refl _ _).alloc (Nat.le_refl _) _).alloc (by simp) _
  have hz : W2.heap.size = w.heap.size + 1 + 1 := by rw [hW]; simp
  have k0 : W2.heap[w.heap.size]? = some (.cells #[a, b] T (0, 0)) := by rw [hW]; exact keepI1
  have k1 : W2.heap[w.heap.size + 1]? = some (.cells #[x, y, z] T' (0, 0)) := by rw [hW]; exact newI1
  exact ⟨W2, hW, hb, hz, fun X h => ⟨(h.block _ (by omega)).trans k0, (h.block _ (by omega)).trans k1, hb.trans (h.mono hb.size)⟩⟩
theorem rep_set {α : Type} (x y : α) {k q : Nat} (h : k < q) : (List.replicate k x ++ List.replicate (q - k) y).set k x = List.replicate (k + 1) x ++ List.replicate (q - (k + 1)) y := by
  obtain ⟨m, rfl⟩ : ∃ m, q = k + 1 + m := ⟨q - (k + 1), by omega⟩
  rw [show k + 1 + m - k = m + 1 by omega, show k + 1 + m - (k + 1) = m by omega, List.set_append_right _ _ (by simp), List.length_replicate, Nat.sub_self, List.replicate_succ, List.set_cons_zero, List.replicate_succ' (n := k), List.append_assoc]
  rfl
theorem gdy_ne {α : Type} (l : List α) {i j : Nat} (x d : α) (h : ¬ i = j) : (l.set i x).getD j d = l.getD j d := by
  rw [List.getD_eq_getElem?_getD, List.getElem?_set_ne h, ← List.getD_eq_getElem?_getD]
theorem gdy_eq {α : Type} (l : List α) {i : Nat} (x d : α) (h : i < l.length) : (l.set i x).getD i d = x := by
  rw [List.getD_eq_getElem?_getD, List.getElem?_set_self h]; rfl
theorem cell_heapY {w w' : World} {g : Nat} (h : w'.heap[g]? = w.heap[g]?) (i : Nat) : w'.cell? ⟨g, i, none⟩ = w.cell? ⟨g, i, none⟩ := by
  simp [World.cell?, h]
theorem own_nil (T : TypeId) (w : World) (B : Nat) : Own1 T w B nilS [] := World.ownsRow_nil w B T 1
/-- The row i is another row of one's own (any header). -/
theorem Mine.rowY {w X : World} {B T i g m c : Nat} {ll : List (List Int)} {hv v' : Value} {x : List Int} (h : Mine w B T (.slice (some ⟨g, 0, none⟩) m c) ll) (hc : w.cell? ⟨g, i, none⟩ = some hv)
    (hi : i < ll.length) (hz : w.heap.size ≤ X.heap.size) (hk : ∀ k, B ≤ k → k < T → some k ≠ hv.ownBlock → X.heap[k]? = w.heap[k]?) (ho : Own1 TN X B v' (icells x))
    (hb : v'.ownBlock = hv.ownBlock ∨ ∀ k, v'.ownBlock = some k → T ≤ k) :
    X.frozen? ⟨g, i, none⟩ = false ∧ X.cell? ⟨g, i, none⟩ = some hv ∧ Mine (X.setCell ⟨g, i, none⟩ v') B X.heap.size (.slice (some ⟨g, 0, none⟩) m c) (ll.set i x) := by
  obtain ⟨hT, hv0, hs, hown, hr⟩ := h
  have hgT := hv0 g rfl
  have hgB := (hown.ob g rfl).1
  have hl := hr.1
  have hc0 : w.cell? ⟨g, i, none⟩ = hs[i]? := (hown.cellAt i (by omega)).1
  rw [hc, getD_at hs nilS (by omega)] at hc0
  injection hc0 with hc0
  have hgi := (hr.2.1 i hi).2
  rw [← hc0] at hgi
  have hng : some g ≠ hv.ownBlock := fun e => (hgi g e.symm).2 rfl
  have hkg := hk g hgB hgT hng
  have ho2 : Own1 TI X B (.slice (some ⟨g, 0, none⟩) m c) hs := hown.same fun k e => by
    have e2 : some g = some k := e
    injection e2 with e2
    subst e2
    exact hkg
  have hm : ∀ k, v'.ownBlock = some k → k ≠ g := fun k e ekg => by
    subst ekg
    rcases hb with hb | hb
    · exact hng (by rw [← hb, e])
    · have := hb k e; omega
  refine ⟨(ho2.cellAt i (by omega)).2, (cell_heapY hkg i).trans hc, ⟨by simp [World.setCell], fun k e => by have := hv0 k e; omega, hs.set i v', ho2.setAt i v', ⟨by rw [List.length_set, List.length_set]; exact hl, fun i' hi' => ?_, fun a b k hab hb2 e => ?_⟩⟩⟩
  · rw [List.length_set] at hi'
    have hkk : ∀ k, k ≠ g → (X.setCell ⟨g, i, none⟩ v').heap[k]? = X.heap[k]? := fun k hk => Below.heap_setCell X ⟨g, i, none⟩ _ k hk
    by_cases e : i = i'
    · subst e
      rw [gdy_eq _ _ _ (by omega), gdy_eq _ _ _ hi]
      exact ⟨ho.same fun k e => hkk k (hm k e), fun k e => ⟨(ho.ob k e).2, fun e2 => hm k e (by injection e2)⟩⟩
    · rw [gdy_ne _ _ _ e, gdy_ne _ _ _ e]
      obtain ⟨h1, h2⟩ := hr.2.1 i' hi'
      refine ⟨h1.same fun k ek => ?_, fun k ek => ⟨by have := (h2 k ek).1; omega, (h2 k ek).2⟩⟩
      have hkg : k ≠ g := fun e2 => (h2 k ek).2 (by rw [e2]; rfl)
      rw [hkk k hkg]
      refine hk k (h1.ob k ek).1 (h2 k ek).1 fun e2 => ?_
      rw [hc0] at e2
      rcases Nat.lt_or_ge i i' with hlt | hge
      · exact hr.2.2 i i' k hlt hi' e2.symm ek
      · exact hr.2.2 i' i k (by omega) hi ek e2.symm
  · rw [List.length_set] at hb2
    intro e2
    have key : ∀ p, p < ll.length → ((hs.set i v').getD p nilS).ownBlock = some k → (p = i ∧ v'.ownBlock = some k) ∨ (p ≠ i ∧ (hs.getD p nilS).ownBlock = some k) := fun p hp ep => by
      by_cases e : i = p
      · subst e
        rw [gdy_eq _ _ _ (by omega)] at ep
        exact .inl ⟨rfl, ep⟩
      · rw [gdy_ne _ _ _ e] at ep
        exact .inr ⟨fun e3 => e e3.symm, ep⟩
    have old : ∀ p, p ≠ i → p < ll.length → (hs.getD p nilS).ownBlock = some k → v'.ownBlock = some k → False := fun p hpi hp ep ev => by
      rcases hb with hb | hb
      · rw [ev, hc0] at hb
        rcases Nat.lt_or_ge p i with hlt | hge
        · exact hr.2.2 p i k hlt hi ep hb.symm
        · exact hr.2.2 i p k (by omega) hp hb.symm ep
      · have := hb k ev
        have := ((hr.2.1 p hp).2 k ep).1
        omega
    rcases key a (by omega) e with ⟨ea, va⟩ | ⟨ea, va⟩
    · rcases key b hb2 e2 with ⟨eb, vb⟩ | ⟨eb, vb⟩
      · omega
      · exact old b eb hb2 vb va
    · rcases key b hb2 e2 with ⟨eb, vb⟩ | ⟨eb, vb⟩
      · exact old a ea (by omega) va vb
      · exact hr.2.2 a b k hab hb2 va vb
theorem Mine.rowOwnY {w : World} {B T i g m c : Nat} {ll : List (List Int)} {hv : Value} (h : Mine w B T (.slice (some ⟨g, 0, none⟩) m c) ll) (hc : w.cell? ⟨g, i, none⟩ = some hv) (hi : i < ll.length) :
    Own1 TN w B hv (icells (ll.getD i [])) := by
  obtain ⟨hT, hv0, hs, hown, hr⟩ := h
  have hl := hr.1
  have hc0 : w.cell? ⟨g, i, none⟩ = hs[i]? := (hown.cellAt i (by omega)).1
  rw [hc, getD_at hs nilS (by omega)] at hc0
  injection hc0 with hc0
  rw [hc0]
  exact (hr.2.1 i hi).1

def zerow (n : Nat) : List Int := List.replicate n 0
theorem zerow_cells (n : Nat) : icells (zerow n) = List.replicate n (Value.int IntKind.i64 0) := by simp [icells, zerow]
theorem nils {w : World} {B g m : Nat} (hg : g < w.heap.size) (h : Own1 TI w B (.slice (some ⟨g, 0, none⟩) m m) (List.replicate m nilS)) : Mine w B w.heap.size (.slice (some ⟨g, 0, none⟩) m m) (List.replicate m []) := by
  refine ⟨Nat.le_refl _, fun k e => ?_, _, h, by simp, fun i hi => ?_, fun i j k _ hj e => ?_⟩
  · have e2 : some g = some k := e
    injection e2 with e2; omega
  · rw [List.length_replicate] at hi
    rw [getD_of _ _ (by simpa using hi), getD_of _ _ (by simpa using hi), List.getElem_replicate, List.getElem_replicate]
    exact ⟨own_nil _ _ _, fun k e => by cases e⟩
  · rw [List.length_replicate] at hj
    rw [getD_of _ _ (by simp; omega), List.getElem_replicate] at e
    cases e
theorem head {w : World} {B T g m c i : Nat} {ll : List (List Int)} (h : Mine w B T (.slice (some ⟨g, 0, none⟩) m c) ll) (hi : i < ll.length) : ∃ hv, w.cell? ⟨g, i, none⟩ = some hv := by
  obtain ⟨_, _, hs, hown, hr⟩ := h
  have hl : i < hs.length := by rw [hr.1]; exact hi
  exact ⟨hs[i], (hown.cellAt i hl).1.trans (List.getElem?_eq_getElem hl)⟩
set_option maxHeartbeats 2000000 in
theorem iNew_any (q d : Nat) (hq : q ≤ 4) (hd : d ≤ 4) (w : World) : Calls Tryd.prog 104 #[szV q d] w fun e w' => ∃ g2 c, e = .returned (grV q d (.slice (some ⟨g2, 0, none⟩) q c)) ∧ Mine w' w.heap.size w'.heap.size (.slice (some ⟨g2, 0, none⟩) q c) (List.replicate q (zerow d)) ∧ Below w.heap.size w w' := by
  obtain ⟨W2, hW, hb2, hz2, hf⟩ := two_size w (.int .i64 q) (.int .i64 d) (.int .i64 0) (.int .i64 0) (.slice none 0 0) TG 59
  obtain ⟨i0, hi0, hz0, hs0, hs1⟩ := info_parts (P := Tryd.prog) (e := TN) (z := (Value.int IntKind.i64 0)) (size := 1) (bytes := 8) (by kernel_rfl)
  obtain ⟨i1, hi1, hy0, hy1, hy2⟩ := info_parts (P := Tryd.prog) (e := TI) (z := .slice none 0 0) (size := 1) (bytes := 24) (by kernel_rfl)
  have HF := Lib.hid hf
  have HZ2 := Lib.hid hz2
  have HW := Lib.hid hW.symm
  clear hf hb2 hz2 hW
  go_enter Tryd.func104, Tryd.ntmps104
  have HB0 := Lib.hid (Below.refl W2.heap.size W2)
  obtain ⟨c0, c1, _, _⟩ := blk2 (HF.out W2 HB0.out).1
  rw [← HW.out] at c0 c1
  go_wp2_with (at_make
               rw [HW.out]
               go_loud (refine wpList_make_full _ rfl _ _ 23 rfl W2.heap.size TI i1 (.slice none 0 0) 1 Tryd.underlying23 hi1 hy0 hy1 _ _ _ _ q rfl rfl rfl rfl (by rw [hy2]; omega) (by simp only [maxLen]; omega) (Nat.le_refl _) ?_)
               intro w1 ho hg
               have ho1 : Own1 TI w1 W2.heap.size (.slice (some ⟨W2.heap.size, 0, none⟩) q q) (List.replicate q nilS) := by
                 have h := ho
                 have e : (Value.slice none 0 0).cells = #[.slice none 0 0] := rfl
                 rw [e, made_one] at h
                 unfold Own1
                 rw [List.length_replicate]; exact h
               have HB1 := Lib.hid (show Below W2.heap.size W2 w1 from (Below.refl _ _).grown hg (Nat.le_refl _) (fun k hk => by cases hk))
               have HO := Lib.hid (nils (show W2.heap.size < w1.heap.size from (ho1.ob _ rfl).2) ho1)
               clear ho ho1 hg c0 c1)
  go_loopw [10] (fun i wr => ∃ k : Nat, k ≤ q ∧ i = .int .i64 k ∧ Mine wr W2.heap.size wr.heap.size (.slice (some ⟨W2.heap.size, 0, none⟩) q q) (List.replicate k (zerow d) ++ List.replicate (q - k) []) ∧ Below W2.heap.size W2 wr) (fun i _ => q - (intOf i).toNat)
  case atStart => exact ⟨0, Nat.zero_le _, rfl, by rw [Nat.sub_zero]; exact HO.out, HB1.out⟩
  case round =>
    obtain ⟨k, hk, rfl, ho, hb⟩ := hrel
    clear HO HB1
    have HO := Lib.hid ho
    have HB := Lib.hid hb
    obtain ⟨c0, c1, _, _⟩ := blk2 (HF.out wr hb).1
    have hz := hb.size
    have hz2 := HZ2.out
    have hwr : w.heap.size ≤ wr.heap.size := by omega
    by_cases hlt : k < q
    · have hki : (k : Int) < (q : Int) := by omega
      have hkl : k < (List.replicate k (zerow d) ++ List.replicate (q - k) []).length := by simp; omega
      obtain ⟨hv, hhv⟩ := head ho hkl
      have HH := Lib.hid hhv
      have HKL := Lib.hid hkl
      have HS := Lib.hid (rep_set (zerow d) [] hlt)
      clear ho hb hhv hkl hz2
      go_wp2_with (at_make
                   go_loud (refine wpList_make_full _ rfl _ _ 30 rfl wr.heap.size TN i0 (Value.int IntKind.i64 0) 1 Tryd.underlying30 hi0 hz0 hs0 _ _ _ _ d rfl rfl rfl rfl (by rw [hs1]; omega) (by simp only [maxLen]; omega) (Nat.le_refl _) ?_)
                   intro w1 ho hg
                   have ho1 : Own1 TN w1 wr.heap.size (.slice (some ⟨wr.heap.size, 0, none⟩) d d) (icells (zerow d)) := by
                     have h := ho
                     have e : ((Value.int IntKind.i64 0)).cells = #[(Value.int IntKind.i64 0)] := rfl
                     rw [e, made_one] at h
                     unfold Own1
                     rw [zerow_cells, List.length_replicate]; exact h
                   have hB1 : Below wr.heap.size wr w1 := (Below.refl _ _).grown hg (Nat.le_refl _) (fun k hk => by cases hk)
                   obtain ⟨f1, x1, m1⟩ := HO.out.rowY HH.out HKL.out hB1.size (fun k _ hk2 _ => hB1.block k hk2) (ho1.less hz) (.inr fun k e => by
                     have e2 : some wr.heap.size = some k := e
                     injection e2 with e2; omega)
                   rw [HS.out] at m1
                   have HM1 := Lib.hid m1
                   have HB1 := Lib.hid ((HB.out.trans (hB1.mono hz)).setCell (p := ⟨W2.heap.size, k, none⟩) (Nat.le_refl _) (.slice (some ⟨wr.heap.size, 0, none⟩) d d))
                   clear ho ho1 hg hB1 m1 c0 c1)
      go_roundw
      case rel => exact ⟨k + 1, by omega, by go_num, by rw [World.size_setCell]; exact HM1.out, HB1.out⟩
      case measure => simp [intOf]; omega
    · have hki : ¬ (k : Int) < (q : Int) := by omega
      obtain rfl : k = q := by omega
      obtain ⟨d0, d1, d2, f0, f1, f2⟩ := blkG3 (HF.out wr hb).2.1
      have HM := Lib.hid (show Mine wr W2.heap.size wr.heap.size (.slice (some ⟨W2.heap.size, 0, none⟩) k k) (List.replicate k (zerow d)) by have h := ho; rw [Nat.sub_self, List.replicate_zero, List.append_nil] at h; exact h)
      clear ho hz2
      go_wp2
      refine bodyPost_ret (v := grV k d (.slice (some ⟨W2.heap.size, 0, none⟩) k k)) (by simp [results, Tryd.results104, go_sem, *]) rfl ?_
      refine ⟨_, _, rfl, ?_, ((((HF.out wr HB.out).2.2.setCell (p := ⟨w.heap.size + 1, 0, none⟩) (by simp) _).setCell (p := ⟨w.heap.size + 1, 1, none⟩) (by simp) _).setCell (p := ⟨w.heap.size + 1, 2, none⟩) (by simp) _)⟩
      have hz2 := HZ2.out
      have hm := HM.out
      obtain ⟨hT, hv, hs, ho, hr⟩ := hm
      refine (HM.out.same (by simp [World.setCell]) fun p hp _ => ?_).lower (by omega) |>.up
      have hne : p ≠ w.heap.size + 1 := by omega
      rw [Below.heap_setCell _ ⟨w.heap.size + 1, 2, none⟩ _ p hne, Below.heap_setCell _ ⟨w.heap.size + 1, 1, none⟩ _ p hne, Below.heap_setCell _ ⟨w.heap.size + 1, 0, none⟩ _ p hne]
theorem MineB.lowerM {w : World} {B B' T : Nat} {v : Value} {ll : List (List Bool)} (h : MineB w B T v ll) (hB : B' ≤ B) : MineB w B' T v ll := by
  obtain ⟨hT, hv, hs, ho, hr⟩ := h
  exact ⟨hT, hv, hs, ho.less hB, hr.1, fun i hi => ⟨(hr.2.1 i hi).1.less hB, (hr.2.1 i hi).2⟩, hr.2.2⟩
/-- The row i is another row of one's own (any header). -/
theorem MineB.rowY {w X : World} {B T i g m c : Nat} {ll : List (List Bool)} {hv v' : Value} {x : List Bool} (h : MineB w B T (.slice (some ⟨g, 0, none⟩) m c) ll) (hc : w.cell? ⟨g, i, none⟩ = some hv)
    (hi : i < ll.length) (hz : w.heap.size ≤ X.heap.size) (hk : ∀ k, B ≤ k → k < T → some k ≠ hv.ownBlock → X.heap[k]? = w.heap[k]?) (ho : Own1 TBo X B v' (bcells x))
    (hb : v'.ownBlock = hv.ownBlock ∨ ∀ k, v'.ownBlock = some k → T ≤ k) :
    X.frozen? ⟨g, i, none⟩ = false ∧ X.cell? ⟨g, i, none⟩ = some hv ∧ MineB (X.setCell ⟨g, i, none⟩ v') B X.heap.size (.slice (some ⟨g, 0, none⟩) m c) (ll.set i x) := by
  obtain ⟨hT, hv0, hs, hown, hr⟩ := h
  have hgT := hv0 g rfl
  have hgB := (hown.ob g rfl).1
  have hl := hr.1
  have hc0 : w.cell? ⟨g, i, none⟩ = hs[i]? := (hown.cellAt i (by omega)).1
  rw [hc, getD_at hs nilS (by omega)] at hc0
  injection hc0 with hc0
  have hgi := (hr.2.1 i hi).2
  rw [← hc0] at hgi
  have hng : some g ≠ hv.ownBlock := fun e => (hgi g e.symm).2 rfl
  have hkg := hk g hgB hgT hng
  have ho2 : Own1 TBS X B (.slice (some ⟨g, 0, none⟩) m c) hs := hown.same fun k e => by
    have e2 : some g = some k := e
    injection e2 with e2
    subst e2
    exact hkg
  have hm : ∀ k, v'.ownBlock = some k → k ≠ g := fun k e ekg => by
    subst ekg
    rcases hb with hb | hb
    · exact hng (by rw [← hb, e])
    · have := hb k e; omega
  refine ⟨(ho2.cellAt i (by omega)).2, (cell_heapY hkg i).trans hc, ⟨by simp [World.setCell], fun k e => by have := hv0 k e; omega, hs.set i v', ho2.setAt i v', ⟨by rw [List.length_set, List.length_set]; exact hl, fun i' hi' => ?_, fun a b k hab hb2 e => ?_⟩⟩⟩
  · rw [List.length_set] at hi'
    have hkk : ∀ k, k ≠ g → (X.setCell ⟨g, i, none⟩ v').heap[k]? = X.heap[k]? := fun k hk => Below.heap_setCell X ⟨g, i, none⟩ _ k hk
    by_cases e : i = i'
    · subst e
      rw [gdy_eq _ _ _ (by omega), gdy_eq _ _ _ hi]
      exact ⟨ho.same fun k e => hkk k (hm k e), fun k e => ⟨(ho.ob k e).2, fun e2 => hm k e (by injection e2)⟩⟩
    · rw [gdy_ne _ _ _ e, gdy_ne _ _ _ e]
      obtain ⟨h1, h2⟩ := hr.2.1 i' hi'
      refine ⟨h1.same fun k ek => ?_, fun k ek => ⟨by have := (h2 k ek).1; omega, (h2 k ek).2⟩⟩
      have hkg : k ≠ g := fun e2 => (h2 k ek).2 (by rw [e2]; rfl)
      rw [hkk k hkg]
      refine hk k (h1.ob k ek).1 (h2 k ek).1 fun e2 => ?_
      rw [hc0] at e2
      rcases Nat.lt_or_ge i i' with hlt | hge
      · exact hr.2.2 i i' k hlt hi' e2.symm ek
      · exact hr.2.2 i' i k (by omega) hi ek e2.symm
  · rw [List.length_set] at hb2
    intro e2
    have key : ∀ p, p < ll.length → ((hs.set i v').getD p nilS).ownBlock = some k → (p = i ∧ v'.ownBlock = some k) ∨ (p ≠ i ∧ (hs.getD p nilS).ownBlock = some k) := fun p hp ep => by
      by_cases e : i = p
      · subst e
        rw [gdy_eq _ _ _ (by omega)] at ep
        exact .inl ⟨rfl, ep⟩
      · rw [gdy_ne _ _ _ e] at ep
        exact .inr ⟨fun e3 => e e3.symm, ep⟩
    have old : ∀ p, p ≠ i → p < ll.length → (hs.getD p nilS).ownBlock = some k → v'.ownBlock = some k → False := fun p hpi hp ep ev => by
      rcases hb with hb | hb
      · rw [ev, hc0] at hb
        rcases Nat.lt_or_ge p i with hlt | hge
        · exact hr.2.2 p i k hlt hi ep hb.symm
        · exact hr.2.2 i p k (by omega) hp hb.symm ep
      · have := hb k ev
        have := ((hr.2.1 p hp).2 k ep).1
        omega
    rcases key a (by omega) e with ⟨ea, va⟩ | ⟨ea, va⟩
    · rcases key b hb2 e2 with ⟨eb, vb⟩ | ⟨eb, vb⟩
      · omega
      · exact old b eb hb2 vb va
    · rcases key b hb2 e2 with ⟨eb, vb⟩ | ⟨eb, vb⟩
      · exact old a ea (by omega) va vb
      · exact hr.2.2 a b k hab hb2 va vb
theorem MineB.rowOwnY {w : World} {B T i g m c : Nat} {ll : List (List Bool)} {hv : Value} (h : MineB w B T (.slice (some ⟨g, 0, none⟩) m c) ll) (hc : w.cell? ⟨g, i, none⟩ = some hv) (hi : i < ll.length) :
    Own1 TBo w B hv (bcells (ll.getD i [])) := by
  obtain ⟨hT, hv0, hs, hown, hr⟩ := h
  have hl := hr.1
  have hc0 : w.cell? ⟨g, i, none⟩ = hs[i]? := (hown.cellAt i (by omega)).1
  rw [hc, getD_at hs nilS (by omega)] at hc0
  injection hc0 with hc0
  rw [hc0]
  exact (hr.2.1 i hi).1

def zerowM (n : Nat) : List Bool := List.replicate n false
theorem zerowM_cells (n : Nat) : bcells (zerowM n) = List.replicate n (Value.bool false) := by simp [bcells, zerowM]
theorem nilsM {w : World} {B g m : Nat} (hg : g < w.heap.size) (h : Own1 TBS w B (.slice (some ⟨g, 0, none⟩) m m) (List.replicate m nilS)) : MineB w B w.heap.size (.slice (some ⟨g, 0, none⟩) m m) (List.replicate m []) := by
  refine ⟨Nat.le_refl _, fun k e => ?_, _, h, by simp, fun i hi => ?_, fun i j k _ hj e => ?_⟩
  · have e2 : some g = some k := e
    injection e2 with e2; omega
  · rw [List.length_replicate] at hi
    rw [getD_of _ _ (by simpa using hi), getD_of _ _ (by simpa using hi), List.getElem_replicate, List.getElem_replicate]
    exact ⟨own_nil _ _ _, fun k e => by cases e⟩
  · rw [List.length_replicate] at hj
    rw [getD_of _ _ (by simp; omega), List.getElem_replicate] at e
    cases e
theorem headM {w : World} {B T g m c i : Nat} {ll : List (List Bool)} (h : MineB w B T (.slice (some ⟨g, 0, none⟩) m c) ll) (hi : i < ll.length) : ∃ hv, w.cell? ⟨g, i, none⟩ = some hv := by
  obtain ⟨_, _, hs, hown, hr⟩ := h
  have hl : i < hs.length := by rw [hr.1]; exact hi
  exact ⟨hs[i], (hown.cellAt i hl).1.trans (List.getElem?_eq_getElem hl)⟩
set_option maxHeartbeats 2000000 in
theorem iNewM_any (q d : Nat) (hq : q ≤ 4) (hd : d ≤ 4) (w : World) : Calls Tryd.prog 70 #[szV q d] w fun e w' => ∃ g2 c, e = .returned (grV q d (.slice (some ⟨g2, 0, none⟩) q c)) ∧ MineB w' w.heap.size w'.heap.size (.slice (some ⟨g2, 0, none⟩) q c) (List.replicate q (zerowM d)) ∧ Below w.heap.size w w' := by
  obtain ⟨W2, hW, hb2, hz2, hf⟩ := two_size w (.int .i64 q) (.int .i64 d) (.int .i64 0) (.int .i64 0) (.slice none 0 0) TG 79
  obtain ⟨i0, hi0, hz0, hs0, hs1⟩ := info_parts (P := Tryd.prog) (e := TBo) (z := (Value.bool false)) (size := 1) (bytes := 1) (by kernel_rfl)
  obtain ⟨i1, hi1, hy0, hy1, hy2⟩ := info_parts (P := Tryd.prog) (e := TBS) (z := .slice none 0 0) (size := 1) (bytes := 24) (by kernel_rfl)
  have HF := Lib.hid hf
  have HZ2 := Lib.hid hz2
  have HW := Lib.hid hW.symm
  clear hf hb2 hz2 hW
  go_enter Tryd.func70, Tryd.ntmps70
  have HB0 := Lib.hid (Below.refl W2.heap.size W2)
  obtain ⟨c0, c1, _, _⟩ := blk2 (HF.out W2 HB0.out).1
  rw [← HW.out] at c0 c1
  go_wp2_with (at_make
               rw [HW.out]
               go_loud (refine wpList_make_full _ rfl _ _ 24 rfl W2.heap.size TBS i1 (.slice none 0 0) 1 Tryd.underlying24 hi1 hy0 hy1 _ _ _ _ q rfl rfl rfl rfl (by rw [hy2]; omega) (by simp only [maxLen]; omega) (Nat.le_refl _) ?_)
               intro w1 ho hg
               have ho1 : Own1 TBS w1 W2.heap.size (.slice (some ⟨W2.heap.size, 0, none⟩) q q) (List.replicate q nilS) := by
                 have h := ho
                 have e : (Value.slice none 0 0).cells = #[.slice none 0 0] := rfl
                 rw [e, made_one] at h
                 unfold Own1
                 rw [List.length_replicate]; exact h
               have HB1 := Lib.hid (show Below W2.heap.size W2 w1 from (Below.refl _ _).grown hg (Nat.le_refl _) (fun k hk => by cases hk))
               have HO := Lib.hid (nilsM (show W2.heap.size < w1.heap.size from (ho1.ob _ rfl).2) ho1)
               clear ho ho1 hg c0 c1)
  go_loopw [10] (fun i wr => ∃ k : Nat, k ≤ q ∧ i = .int .i64 k ∧ MineB wr W2.heap.size wr.heap.size (.slice (some ⟨W2.heap.size, 0, none⟩) q q) (List.replicate k (zerowM d) ++ List.replicate (q - k) []) ∧ Below W2.heap.size W2 wr) (fun i _ => q - (intOf i).toNat)
  case atStart => exact ⟨0, Nat.zero_le _, rfl, by rw [Nat.sub_zero]; exact HO.out, HB1.out⟩
  case round =>
    obtain ⟨k, hk, rfl, ho, hb⟩ := hrel
    clear HO HB1
    have HO := Lib.hid ho
    have HB := Lib.hid hb
    obtain ⟨c0, c1, _, _⟩ := blk2 (HF.out wr hb).1
    have hz := hb.size
    have hz2 := HZ2.out
    have hwr : w.heap.size ≤ wr.heap.size := by omega
    by_cases hlt : k < q
    · have hki : (k : Int) < (q : Int) := by omega
      have hkl : k < (List.replicate k (zerowM d) ++ List.replicate (q - k) []).length := by simp; omega
      obtain ⟨hv, hhv⟩ := headM ho hkl
      have HH := Lib.hid hhv
      have HKL := Lib.hid hkl
      have HS := Lib.hid (rep_set (zerowM d) [] hlt)
      clear ho hb hhv hkl hz2
      go_wp2_with (at_make
                   go_loud (refine wpList_make_full _ rfl _ _ 31 rfl wr.heap.size TBo i0 (Value.bool false) 1 Tryd.underlying31 hi0 hz0 hs0 _ _ _ _ d rfl rfl rfl rfl (by rw [hs1]; omega) (by simp only [maxLen]; omega) (Nat.le_refl _) ?_)
                   intro w1 ho hg
                   have ho1 : Own1 TBo w1 wr.heap.size (.slice (some ⟨wr.heap.size, 0, none⟩) d d) (bcells (zerowM d)) := by
                     have h := ho
                     have e : ((Value.bool false)).cells = #[(Value.bool false)] := rfl
                     rw [e, made_one] at h
                     unfold Own1
                     rw [zerowM_cells, List.length_replicate]; exact h
                   have hB1 : Below wr.heap.size wr w1 := (Below.refl _ _).grown hg (Nat.le_refl _) (fun k hk => by cases hk)
                   obtain ⟨f1, x1, m1⟩ := HO.out.rowY HH.out HKL.out hB1.size (fun k _ hk2 _ => hB1.block k hk2) (ho1.less hz) (.inr fun k e => by
                     have e2 : some wr.heap.size = some k := e
                     injection e2 with e2; omega)
                   rw [HS.out] at m1
                   have HM1 := Lib.hid m1
                   have HB1 := Lib.hid ((HB.out.trans (hB1.mono hz)).setCell (p := ⟨W2.heap.size, k, none⟩) (Nat.le_refl _) (.slice (some ⟨wr.heap.size, 0, none⟩) d d))
                   clear ho ho1 hg hB1 m1 c0 c1)
      go_roundw
      case rel => exact ⟨k + 1, by omega, by go_num, by rw [World.size_setCell]; exact HM1.out, HB1.out⟩
      case measure => simp [intOf]; omega
    · have hki : ¬ (k : Int) < (q : Int) := by omega
      obtain rfl : k = q := by omega
      obtain ⟨d0, d1, d2, f0, f1, f2⟩ := blkG3 (HF.out wr hb).2.1
      have HM := Lib.hid (show MineB wr W2.heap.size wr.heap.size (.slice (some ⟨W2.heap.size, 0, none⟩) k k) (List.replicate k (zerowM d)) by have h := ho; rw [Nat.sub_self, List.replicate_zero, List.append_nil] at h; exact h)
      clear ho hz2
      go_wp2
      refine bodyPost_ret (v := grV k d (.slice (some ⟨W2.heap.size, 0, none⟩) k k)) (by simp [results, Tryd.results70, go_sem, *]) rfl ?_
      refine ⟨_, _, rfl, ?_, ((((HF.out wr HB.out).2.2.setCell (p := ⟨w.heap.size + 1, 0, none⟩) (by simp) _).setCell (p := ⟨w.heap.size + 1, 1, none⟩) (by simp) _).setCell (p := ⟨w.heap.size + 1, 2, none⟩) (by simp) _)⟩
      have hz2 := HZ2.out
      have hm := HM.out
      obtain ⟨hT, hv, hs, ho, hr⟩ := hm
      refine (HM.out.same (by simp [World.setCell]) fun p hp _ => ?_).lowerM (by omega) |>.up
      have hne : p ≠ w.heap.size + 1 := by omega
      rw [Below.heap_setCell _ ⟨w.heap.size + 1, 2, none⟩ _ p hne, Below.heap_setCell _ ⟨w.heap.size + 1, 1, none⟩ _ p hne, Below.heap_setCell _ ⟨w.heap.size + 1, 0, none⟩ _ p hne]
end Go.Proofs.YtobgceebolmfcaaDoor
