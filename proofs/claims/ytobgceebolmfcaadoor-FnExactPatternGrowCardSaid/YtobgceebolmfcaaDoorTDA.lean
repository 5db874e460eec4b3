/- Draws of tables. The drawing of a table. The draws of chapter 11. The drawing of a mask. -/
import Derived.Test.YtobgceebolmfcaaDoorTSA
import Derived.Test.YtobgceebolmfcaaDoorA4
import Derived.Test.YtobgceebolmfcaaDoorMW
namespace Go.Proofs.YtobgceebolmfcaaDoor
open Go.RowKit
theorem Mine.grown {w w' : World} {B T R : Nat} {v : Value} {ll : List (List Int)} (h : Mine w B T v ll) (hg : w.grownBy w' (some R)) (hR : R < B) : Mine w' B T v ll :=
  h.same hg.size fun k hB hT => hg.block k (Nat.lt_of_lt_of_le hT h.1) (fun e => by injection e; omega)
theorem gds_ne {α : Type} (l : List α) {i j : Nat} (x d : α) (h : ¬ i = j) : (l.set i x).getD j d = l.getD j d := by
  rw [List.getD_eq_getElem?_getD, List.getElem?_set_ne h, ← List.getD_eq_getElem?_getD]
theorem gds_eq {α : Type} (l : List α) {i : Nat} (x d : α) (h : i < l.length) : (l.set i x).getD i d = x := by
  rw [List.getD_eq_getElem?_getD, List.getElem?_set_self h]; rfl
theorem cell_heap {w w' : World} {g : Nat} (h : w'.heap[g]? = w.heap[g]?) (i : Nat) : w'.cell? ⟨g, i, none⟩ = w.cell? ⟨g, i, none⟩ := by
  simp [World.cell?, h]
/-- Rows of one's own, seen in a later world: a cell and what a store there makes. -/
theorem Mine.cellX {w X : World} {B T n i j g gi m c ci : Nat} {ll : List (List Int)} (h : Mine w B T (.slice (some ⟨g, 0, none⟩) m c) ll) (hc : w.cell? ⟨g, i, none⟩ = some (.slice (some ⟨gi, 0, none⟩) n ci))
    (hi : i < ll.length) (hj : j < (ll.getD i []).length) (hz : w.heap.size ≤ X.heap.size) (hk : ∀ k, B ≤ k → k < T → X.heap[k]? = w.heap[k]?) :
    X.cell? ⟨g, i, none⟩ = some (.slice (some ⟨gi, 0, none⟩) n ci) ∧ X.cell? ⟨gi, j, none⟩ = some (.int .i64 ((ll.getD i []).getD j 0)) ∧ X.frozen? ⟨gi, j, none⟩ = false ∧
      ∀ x : Int, Mine (X.setCell ⟨gi, j, none⟩ (.int .i64 x)) B T (.slice (some ⟨g, 0, none⟩) m c) (ll.set i ((ll.getD i []).set j x)) := by
  have hX := h.same hz hk
  have hgB := h.ob g rfl
  have e1 := cell_heap (hk g hgB.1 hgB.2) i
  obtain ⟨g', c', gi', ci', hv, k0, _, _, _, k1, kf, hset⟩ := hX.cell hi hj
  injection hv with hv1 _ _
  injection hv1 with hv1
  injection hv1 with hv1 _ _
  subst hv1
  rw [e1, hc] at k0
  injection k0 with k0
  injection k0 with k2 _ _
  injection k2 with k2
  injection k2 with k2 _ _
  subst k2
  exact ⟨e1.trans hc, k1, kf, hset⟩
def Sh (t : List (List Int)) (h d : Nat) : Prop := t.length = h ∧ ∀ i, i < h → (t.getD i []).length = d
theorem Sh.set {t : List (List Int)} {h d : Nat} (s : Sh t h d) (i j : Nat) (x : Int) : Sh (t.set i ((t.getD i []).set j x)) h d := by
  refine ⟨by rw [List.length_set]; exact s.1, fun k hk => ?_⟩
  by_cases e : i = k
  · subst e
    rw [List.getD_eq_getElem?_getD, List.getElem?_set_self (by rw [s.1]; exact hk)]
    simp only [Option.getD_some, List.length_set]; exact s.2 i hk
  · rw [List.getD_eq_getElem?_getD, List.getElem?_set_ne e, ← List.getD_eq_getElem?_getD]; exact s.2 k hk
theorem zeros_sh (h d : Nat) : Sh (zeros h d) h d := by
  refine ⟨by simp [zeros], fun i hi => ?_⟩
  simp [zeros, zrow, List.getD_eq_getElem?_getD, hi]
theorem Sh.rows {t : List (List Int)} {h d : Nat} (s : Sh t h d) (hd : d ≤ 4) : ∀ r ∈ t, r.length ≤ 4 := fun r hr => by
  obtain ⟨i, hi, rfl⟩ := List.getElem_of_mem hr
  have := s.2 i (by rw [← s.1]; exact hi)
  rw [List.getD_eq_getElem?_getD, List.getElem?_eq_getElem hi] at this
  simp at this; omega
theorem three_any {a b c : Int} {t : TypeId} (n y : Nat) (hy : y < 3) : ∃ z : Int, ∀ W : World, W.heap.size = n → (W.alloc (.cells #[.int .i64 a, .int .i64 b, .int .i64 c] t)).cell? ⟨n, y, none⟩ = some (.int .i64 z) := by
  rcases (show y = 0 ∨ y = 1 ∨ y = 2 by omega) with rfl | rfl | rfl
  · exact ⟨a, fun W h => by subst h; exact cell_of_row _ _ 0 _ _ _ (heap_alloc_new W _)⟩
  · exact ⟨b, fun W h => by subst h; exact cell_of_row _ _ 1 _ _ _ (heap_alloc_new W _)⟩
  · exact ⟨c, fun W h => by subst h; exact cell_of_row _ _ 2 _ _ _ (heap_alloc_new W _)⟩
theorem three_cell {W : World} {g : Nat} {a b c : Int} {t : TypeId} (h : W.heap[g]? = some (.cells #[.int .i64 a, .int .i64 b, .int .i64 c] t (0, 0))) (y : Nat) (hy : y < 3) : ∃ z : Int, W.cell? ⟨g, y, none⟩ = some (.int .i64 z) := by
  rcases (show y = 0 ∨ y = 1 ∨ y = 2 by omega) with rfl | rfl | rfl
  · exact ⟨a, cell_of_row _ _ 0 _ _ _ h⟩
  · exact ⟨b, cell_of_row _ _ 1 _ _ _ h⟩
  · exact ⟨c, cell_of_row _ _ 2 _ _ _ h⟩
/-- The row i is another row of one's own. -/
theorem Mine.row {w X : World} {B T i g gi m c n ci : Nat} {ll : List (List Int)} {v' : Value} {x : List Int} (h : Mine w B T (.slice (some ⟨g, 0, none⟩) m c) ll) (hc : w.cell? ⟨g, i, none⟩ = some (.slice (some ⟨gi, 0, none⟩) n ci))
    (hi : i < ll.length) (hz : w.heap.size ≤ X.heap.size) (hk : ∀ k, B ≤ k → k < T → k ≠ gi → X.heap[k]? = w.heap[k]?) (hne : g ≠ gi) (ho : Own1 TN X B v' (icells x))
    (hb : v'.ownBlock = some gi ∨ ∀ k, v'.ownBlock = some k → T ≤ k) :
    X.frozen? ⟨g, i, none⟩ = false ∧ Mine (X.setCell ⟨g, i, none⟩ v') B X.heap.size (.slice (some ⟨g, 0, none⟩) m c) (ll.set i x) := by
  obtain ⟨hT, hv, hs, hown, hr⟩ := h
  have hgT := hv g rfl
  have hgB := (hown.ob g rfl).1
  have hl := hr.1
  have hc0 : w.cell? ⟨g, i, none⟩ = hs[i]? := (hown.cellAt i (by omega)).1
  rw [hc, getD_at hs nilS (by omega)] at hc0
  injection hc0 with hc0
  have hgi : gi < T ∧ some gi ≠ some g := (hr.2.1 i hi).2 gi (by rw [← hc0]; rfl)
  have ho2 : Own1 TI X B (.slice (some ⟨g, 0, none⟩) m c) hs := hown.same fun k e => by
    have e2 : some g = some k := e
    injection e2 with e2
    subst e2
    exact hk g hgB hgT hne
  have hm : ∀ k, v'.ownBlock = some k → k ≠ g := fun k e ekg => by
    subst ekg
    rcases hb with hb | hb
    · rw [hb] at e; injection e with e; exact hne e.symm
    · have := hb k e; omega
  refine ⟨(ho2.cellAt i (by omega)).2, ⟨by simp [World.setCell], fun k e => by have := hv k e; omega, hs.set i v', ho2.setAt i v', ⟨by rw [List.length_set, List.length_set]; exact hl, fun i' hi' => ?_, fun a b k hab hb2 e => ?_⟩⟩⟩
  · rw [List.length_set] at hi'
    have hkk : ∀ k, k ≠ g → (X.setCell ⟨g, i, none⟩ v').heap[k]? = X.heap[k]? := fun k hk => Below.heap_setCell X ⟨g, i, none⟩ _ k hk
    by_cases e : i = i'
    · subst e
      rw [gds_eq _ _ _ (by omega), gds_eq _ _ _ hi]
      exact ⟨ho.same fun k e => hkk k (hm k e), fun k e => ⟨(ho.ob k e).2, fun e2 => hm k e (by injection e2)⟩⟩
    · rw [gds_ne _ _ _ e, gds_ne _ _ _ e]
      obtain ⟨h1, h2⟩ := hr.2.1 i' hi'
      refine ⟨h1.same fun k ek => ?_, fun k ek => ⟨by have := (h2 k ek).1; omega, (h2 k ek).2⟩⟩
      have hkg : k ≠ g := fun e2 => (h2 k ek).2 (by rw [e2]; rfl)
      rw [hkk k hkg]
      refine hk k (h1.ob k ek).1 (h2 k ek).1 fun e2 => ?_
      subst e2
      rcases Nat.lt_or_ge i i' with hlt | hge
      · exact hr.2.2 i i' k hlt hi' (by rw [← hc0]; rfl) ek
      · exact hr.2.2 i' i k (by omega) hi ek (by rw [← hc0]; rfl)
  · rw [List.length_set] at hb2
    intro e2
    have key : ∀ p, p < ll.length → ((hs.set i v').getD p nilS).ownBlock = some k → (p = i ∧ v'.ownBlock = some k) ∨ (p ≠ i ∧ (hs.getD p nilS).ownBlock = some k) := fun p hp ep => by
      by_cases e : i = p
      · subst e
        rw [gds_eq _ _ _ (by omega)] at ep
        exact .inl ⟨rfl, ep⟩
      · rw [gds_ne _ _ _ e] at ep
        exact .inr ⟨fun e3 => e e3.symm, ep⟩
    have old : ∀ p, p ≠ i → p < ll.length → (hs.getD p nilS).ownBlock = some k → v'.ownBlock = some k → False := fun p hpi hp ep ev => by
      rcases hb with hb | hb
      · rw [hb] at ev
        injection ev with ev
        subst ev
        rcases Nat.lt_or_ge p i with hlt | hge
        · exact hr.2.2 p i gi hlt hi ep (by rw [← hc0]; rfl)
        · exact hr.2.2 i p gi (by omega) hp (by rw [← hc0]; rfl) ep
      · have := hb k ev
        have := ((hr.2.1 p hp).2 k ep).1
        omega
    rcases key a (by omega) e with ⟨ea, va⟩ | ⟨ea, va⟩
    · rcases key b hb2 e2 with ⟨eb, vb⟩ | ⟨eb, vb⟩
      · omega
      · exact old b eb hb2 vb va
    · rcases key b hb2 e2 with ⟨eb, vb⟩ | ⟨eb, vb⟩
      · exact old a ea (by omega) va vb
      · exact hr.2.2 a b k hab hb2 va vb
/-- A table, or none, in new memory of one's own. -/
def TabDrawn (R q : Nat) (w : World) (e : Ending) (w' : World) : Prop :=
  ∃ v t, e = .returned v ∧ Mine w' w.heap.size w'.heap.size v t ∧ t.length ≤ 4 ∧ (∀ r ∈ t, r.length ≤ 4) ∧ RdN w' R (q + 24) ∧ w.grownBy w' (some R)
theorem tab_set {X w : World} {R q T gi m z : Nat} {v : Value} {t : List (List Int)} {x : Int} (h : Mine (X.setCell ⟨gi, 0, none⟩ (.int .i64 x)) w.heap.size T v t) (hs : Sh t m z) (hm : m ≤ 4) (hz : z ≤ 4) (hr : RdN X R (q + 24))
    (hg : w.grownBy X (some R)) (hR : R < gi) (hgi : w.heap.size ≤ gi) : TabDrawn R q w (.returned v) (X.setCell ⟨gi, 0, none⟩ (.int .i64 x)) :=
  ⟨v, t, rfl, Mine.up h, by rw [hs.1]; exact hm, hs.rows hz, hr.setCell (a := ⟨gi, 0, none⟩) hR _, grown_set hg (p := ⟨gi, 0, none⟩) (.inr hgi) _⟩
theorem TabDrawn.alloc {R q : Nat} {w w' : World} {e : Ending} (h : TabDrawn R q w e w') (o : Obj) : TabDrawn R q w e (w'.alloc o) := by
  obtain ⟨v, t, he, ho, h1, h2, hr, hg⟩ := h
  exact ⟨v, t, he, Mine.up (ho.alloc o), h1, h2, hr.alloc o, grown_alloc hg o⟩
theorem Mine.rowOwn {w : World} {B T i g gi m c n ci : Nat} {ll : List (List Int)} (h : Mine w B T (.slice (some ⟨g, 0, none⟩) m c) ll) (hc : w.cell? ⟨g, i, none⟩ = some (.slice (some ⟨gi, 0, none⟩) n ci)) (hi : i < ll.length) :
    Own1 TN w B (.slice (some ⟨gi, 0, none⟩) n ci) (icells (ll.getD i [])) := by
  obtain ⟨hT, hv, hs, hown, hr⟩ := h
  have hl := hr.1
  have hc0 : w.cell? ⟨g, i, none⟩ = hs[i]? := (hown.cellAt i (by omega)).1
  rw [hc, getD_at hs nilS (by omega)] at hc0
  injection hc0 with hc0
  rw [hc0]
  exact (hr.2.1 i hi).1
theorem rows_set {t : List (List Int)} {m z i : Nat} {x : List Int} (hs : Sh t m z) (hz : z ≤ 4) (hx : x.length ≤ 4) : ∀ r ∈ t.set i x, r.length ≤ 4 := fun r hr => by
  rcases List.mem_or_eq_of_mem_set hr with h | h
  · exact hs.rows hz r h
  · rw [h]; exact hx
end Go.Proofs.YtobgceebolmfcaaDoor
namespace Go.Proofs.YtobgceebolmfcaaDoor
open Go.RowKit
set_option maxHeartbeats 4000000 in
theorem tab_any (most : Int) (hm0 : 0 ≤ most) (hm1 : most ≤ 1000) (R q : Nat) (hq : q + 24 < 1000000) (w : World) (hr : RdN w R q) :
    Calls Tryd.prog 66 #[.pointer (some ⟨R, 0, none⟩), .int .i64 most] w (TabDrawn R q w) := by
  have hR := hr.lt
  have hwm : IntKind.i64.wrap (most + 1) = most + 1 := by rw [IntKind.wrap_i64]; omega
  go_enter Tryd.func66, Tryd.ntmps66
  go_wp2_with fail
  refine (pick_any 3 (by omega) (by omega) R q (by omega) _ hr).mono ?_
  rintro e w1 ⟨h, rfl, h0, h1, hr1, hg1⟩
  go_wp2_with fail
  refine (pick_any 3 (by omega) (by omega) R (q + 1) (by omega) _ hr1).mono ?_
  rintro e w2 ⟨d, rfl, d0, d1, hr2, hg2⟩
  go_wp2_with fail
  refine (pick_any 3 (by omega) (by omega) R (q + 2) (by omega) _ hr2).mono ?_
  rintro e w3 ⟨x, rfl, x0, x1, hr3, hg3⟩
  have hg13 := grown_trans hg1 (grown_trans hg2 hg3)
  clear hr hr1 hr2 hg1 hg2 hg3
  rcases (show x = 0 ∨ x ≠ 0 by omega) with hx | hx
  case' inl =>
    subst hx
    go_wp2_with fail
    refine (pick_any 3 (by omega) (by omega) R (q + 3) (by omega) _ hr3).mono ?_
    rintro e w4 ⟨y, rfl, y0, y1, hr4, hg4⟩
    have HG := Lib.hid (grown_trans hg13 hg4)
    obtain ⟨m, hm, hm4⟩ : ∃ m : Nat, 2 + y = (m : Int) ∧ 1 ≤ m ∧ m ≤ 4 := ⟨(2 + y).toNat, by omega, by omega⟩
    clear hg13 hg4 hr3
    go_wp2_with fail
    clear hm
  case' inr =>
    obtain ⟨w4, rfl⟩ : ∃ w4, w4 = w3 := ⟨w3, rfl⟩
    have HG := Lib.hid hg13
    have hr4 := hr3.more (q' := q + 4) (by omega)
    obtain ⟨m, hm, hm4⟩ : ∃ m : Nat, 1 + h = (m : Int) ∧ 1 ≤ m ∧ m ≤ 4 := ⟨(1 + h).toNat, by omega, by omega⟩
    clear hg13 hr3
    go_wp2_with fail
    clear hm
  all_goals
    obtain ⟨z, hz, hz4⟩ : ∃ z : Nat, 1 + d = (z : Int) ∧ 1 ≤ z ∧ z ≤ 3 := ⟨(1 + d).toNat, by omega, by omega⟩
    rw [hz]
    clear hz
    refine (sBlank_any m z (by omega) (by omega) w4).mono ?_
    rintro e w5 ⟨v5, rfl, ho5, hb5⟩
    have hz4' := HG.out.size
    have HR5 := Lib.hid ((hr4.keep (hb5.mono (Nat.lt_of_lt_of_le hR hz4'))).more (q' := q + 4 + 4 * 0) (by omega))
    have HG5 := Lib.hid (grown_below HG.out hb5)
    have HO := Lib.hid (show Mine w5 w.heap.size w5.heap.size v5 (zeros m z) from Mine.lower ho5 hz4')
    have HS := Lib.hid (zeros_sh m z)
    clear HG hr4 ho5 hb5 h0 h1 d0 d1 x0 x1
    obtain ⟨T, hT⟩ : ∃ T, T = w5.heap.size := ⟨_, rfl⟩
    rw [← hT] at HO
    obtain ⟨g, c, hv2⟩ : ∃ g c, v5 = .slice (some ⟨g, 0, none⟩) m c := by
      obtain ⟨g, c, _, _, h, _⟩ := HO.out.cell (i := 0) (j := 0) (by rw [HS.out.1]; omega) (by rw [HS.out.2 0 (by omega)]; omega)
      exact ⟨g, c, by rw [h, HS.out.1]⟩
    subst hv2
    go_wp2
    go_loopw [8] (fun i wr => ∃ (k : Nat) (t : List (List Int)), k ≤ m ∧ i = .int .i64 k ∧ Mine wr w.heap.size T (.slice (some ⟨g, 0, none⟩) m c) t ∧ Sh t m z ∧ RdN wr R (q + 4 + 4 * k) ∧ w.grownBy wr (some R)) (fun i _ => m - (intOf i).toNat)
    case atStart => exact ⟨0, zeros m z, Nat.zero_le _, rfl, HO.out, HS.out, HR5.out, HG5.out⟩
    case round =>
      obtain ⟨k, t, hk, rfl, ho, hs, hrd, hgr⟩ := hrel
      clear HO HS
      have HO := Lib.hid ho
      have HS := Lib.hid hs
      have HR := Lib.hid hrd
      have HG := Lib.hid hgr
      clear HR5 HG5 ho hs hrd hgr
      by_cases hlt : k < m
      · have hki : (k : Int) < (m : Int) := by omega
        go_wp2
        go_loopw [9] (fun j wr' => ∃ (p : Nat) (t : List (List Int)), p ≤ z ∧ j = .int .i64 p ∧ Mine wr' w.heap.size T (.slice (some ⟨g, 0, none⟩) m c) t ∧ Sh t m z ∧ RdN wr' R (q + 4 + 4 * k + p) ∧ w.grownBy wr' (some R)) (fun j _ => z - (intOf j).toNat)
        case atStart => exact ⟨0, t, Nat.zero_le _, rfl, HO.out, HS.out, HR.out, HG.out⟩
        case round =>
          obtain ⟨p, t, hp, rfl, ho, hs, hrd, hgr⟩ := hrel
          clear HO HS HR HG
          by_cases hpz : p < z
          · have hpi : (p : Int) < (z : Int) := by omega
            obtain ⟨g', c', gi, ci, hv', k0, _, ⟨hgi, hgT⟩, hgne, k1, kf, hset⟩ := ho.cell (i := k) (j := p) (by rw [hs.1]; exact hlt) (by rw [hs.2 k hlt]; exact hpz)
            injection hv' with hv1 hv2 hv3
            injection hv1 with hv1
            injection hv1 with hv1 _ _
            subst hv1
            rw [hs.2 k hlt] at k0
            have HO := Lib.hid ho
            have HS := Lib.hid hs
            have HG := Lib.hid hgr
            have HK := Lib.hid k0
            clear ho hs hgr hset hv2 hv3 hgne
            go_wp2
            go_region_with (
              go_at_call 38
              refine (pick_any (most + 1) (by omega) (by omega) R (q + 4 + 4 * k + p) (by omega) _ (show RdN wr.drew R (q + 4 + 4 * k + p) from hrd)).mono ?_
              rintro e w6 ⟨u, rfl, u0, u1, hr6, hg6⟩
              obtain ⟨k0', k1', kf', hset⟩ := HO.out.cellX (X := w6) HK.out (i := k) (j := p) (by rw [HS.out.1]; exact hlt) (by rw [HS.out.2 k hlt]; exact hpz) (undrew hg6).size (fun b hb1 hb2 => (undrew hg6).block b (Nat.lt_of_lt_of_le hb2 HO.out.1) (fun e => by injection e; omega))
              have HG6 := Lib.hid (grown_trans HG.out (undrew hg6))
              have HST := Lib.hid hset
              clear hg6 hset)
            all_goals
              have hr7 := (hr6.setCell (a := ⟨gi, p, none⟩) (Nat.lt_of_lt_of_le hR hgi) (.int .i64 u)).more (q' := q + 4 + 4 * k + (p + 1)) (by omega)
              obtain ⟨X, hX⟩ : ∃ X, X = w6.setCell ⟨gi, p, none⟩ (.int .i64 u) := ⟨_, rfl⟩
              have HO7 := Lib.hid (show Mine X w.heap.size T (.slice (some ⟨g, 0, none⟩) m c) _ by rw [hX]; exact HST.out u)
              have HS7 := Lib.hid (HS.out.set k p u)
              have HG7 := Lib.hid (show w.grownBy X (some R) by rw [hX]; exact grown_set HG6.out (p := ⟨gi, p, none⟩) (.inr hgi) (.int .i64 u))
              rw [← hX] at hr7 ⊢
              clear hX hr6 HG6 HST k0 k1 kf k0' k1' kf' hrd HO HS HG HK
              go_wp2
              go_roundw
              case rel => exact ⟨p + 1, _, by omega, by go_num, HO7.out, HS7.out, hr7, HG7.out⟩
              case measure => simp [intOf]; omega
          · have hpi : ¬ (p : Int) < (z : Int) := by omega
            have HO := Lib.hid ho
            have HS := Lib.hid hs
            have HG := Lib.hid hgr
            have hrd := hrd.more (q' := q + 4 + 4 * (k + 1)) (by omega)
            clear ho hs hgr
            go_wp2
            go_roundw
            case rel => exact ⟨k + 1, t, by omega, by go_num, HO.out, HS.out, hrd, HG.out⟩
            case measure => simp [intOf]; omega
      · have hki : ¬ (k : Int) < (m : Int) := by omega
        have hrd := HR.out.more (q' := q + 20) (by omega)
        clear HR
        go_wp2_with fail
        refine (pick_any 40 (by omega) (by omega) R (q + 20) (by omega) _ hrd).mono ?_
        rintro e W ⟨y, rfl, y0, y1, hrW, hgW⟩
        have HOW := Lib.hid (HO.out.grown hgW hR)
        have HGW := Lib.hid (grown_trans HG.out hgW)
        have hzW := HGW.out.size
        clear hgW hrd HO HG
        obtain ⟨g', c', gi, ci, hv', k0, ⟨hgB, hgT⟩, ⟨hgi, hgiT⟩, hgne, k1, kf, hset⟩ := HOW.out.cell (i := 0) (j := 0) (by rw [HS.out.1]; omega) (by rw [HS.out.2 0 (by omega)]; omega)
        injection hv' with hv1 hv2 hv3
        injection hv1 with hv1
        injection hv1 with hv1 _ _
        subst hv1
        rw [HS.out.2 0 (by omega)] at k0
        have HK := Lib.hid k0
        have HSET := Lib.hid hset
        have hTW := HOW.out.1
        have hm0' : (0 : Int) < (m : Int) := by omega
        have hz0' : (0 : Int) < (z : Int) := by omega
        have hm0n : 0 < m := by omega
        have hz0n : 0 < z := by omega
        clear hset hv2 hv3
        rcases (show y = 0 ∨ y = 1 ∨ y = 2 ∨ 2 < y by omega) with rfl | rfl | rfl | hy
        · have hn1 : ¬ W.heap.size = g := by omega
          have hn2 : ¬ g = W.heap.size := by omega
          have hn3 : ¬ W.heap.size = gi := by omega
          have hn4 : ¬ gi = W.heap.size := by omega
          have hWR : R < W.heap.size := by omega
          have hlg : g < W.heap.size := by omega
          have hlgi : gi < W.heap.size := by omega
          have HRW := Lib.hid hrW
          clear hrW
          go_wp2
          go_region_with (first
            | (go_at_call 38
               refine (pick_any 3 (by omega) (by omega) R (q + 21) (by omega) _ (show RdN ((W.alloc (.cells #[.int .i64 (-1), .int .i64 100, .int .i64 99] 3)).drew) R (q + 21) from HRW.out.alloc _)).mono ?_
               rintro e w9 ⟨y, rfl, y0, y1, hr9, hg9⟩
               obtain ⟨y, rfl⟩ := Int.eq_ofNat_of_zero_le y0
               obtain ⟨x9, hx9⟩ := three_cell (new_block (undrew hg9) hWR) y (by omega)
               have HG9 := Lib.hid (grown_trans HGW.out (grown_trans (World.grownBy_alloc W _ _) (undrew hg9)))
               obtain ⟨p0, p1, pf, hset9⟩ := HOW.out.cellX (X := w9) HK.out (i := 0) (j := 0) (by rw [HS.out.1]; omega) (by rw [HS.out.2 0 (by omega)]; omega) (grown_trans (World.grownBy_alloc W _ (some R)) (undrew hg9)).size (fun b hb1 hb2 => (grown_trans (World.grownBy_alloc W _ (some R)) (undrew hg9)).block b (by omega) (fun e => by injection e; omega))
               have HST9 := Lib.hid hset9
               have hlt9 := (undrew hg9).size
               clear hg9 hset9)
            | (go_at_call 38
               refine (pick_any 3 (by omega) (by omega) R (q + 21) (by omega) _ (show RdN W.drew R (q + 21) from HRW.out)).mono ?_
               rintro e w9 ⟨y, rfl, y0, y1, hr9, hg9⟩
               obtain ⟨y, rfl⟩ := Int.eq_ofNat_of_zero_le y0
               have hz9 := (undrew hg9).size
               have hn5 : ¬ w9.heap.size = g := by omega
               have hn6 : ¬ g = w9.heap.size := by omega
               have hn7 : ¬ w9.heap.size = gi := by omega
               have hn8 : ¬ gi = w9.heap.size := by omega
               have hlg9 : g < w9.heap.size := by omega
               have hlgi9 : gi < w9.heap.size := by omega
               obtain ⟨x9, hzA⟩ := three_any (a := -1) (b := 100) (c := 99) (t := 3) w9.heap.size y (by omega)
               have hx9 := hzA w9 rfl
               have HG9 := Lib.hid (grown_trans HGW.out (undrew hg9))
               obtain ⟨p0, p1, pf, hset9⟩ := HOW.out.cellX (X := w9) HK.out (i := 0) (j := 0) (by rw [HS.out.1]; omega) (by rw [HS.out.2 0 (by omega)]; omega) hz9 (fun b hb1 hb2 => (undrew hg9).block b (by omega) (fun e => by injection e; omega))
               have HST9 := Lib.hid hset9
               clear hg9 hset9))
          all_goals
            have hRgi : R < gi := by omega
            have hr9m := hr9.more (q' := q + 24) (by omega)
            go_wp2
            go_ret
            first
              | exact tab_set (HST9.out x9) (HS.out.set 0 0 x9) (by omega) (by omega) hr9m HG9.out hRgi hgi
              | exact (tab_set (HST9.out x9) (HS.out.set 0 0 x9) (by omega) (by omega) hr9m HG9.out hRgi hgi).alloc _
        · have hRO := (HOW.out.rowOwn HK.out (by rw [HS.out.1]; omega))
          have HRO := Lib.hid hRO
          have hn1 : ¬ W.heap.size = g := by omega
          have hn2 : ¬ g = W.heap.size := by omega
          have HLQ := Lib.hid (show (icells (t.getD 0 [])).length + 1 ≤ 1000000 by rw [icells_len, HS.out.2 0 (by omega)]; omega)
          clear hRO
          go_wp2_with (at_builtin
                       go_loud (refine app1 one_I rfl (.tmp 63) (.tmp 64) rfl w.heap.size (.slice (some ⟨gi, 0, none⟩) z ci) (icells (t.getD 0 [])) rfl (HRO.out.alloc _) (W.heap.size + 1) (some ⟨W.heap.size, 0, none⟩) 1 1 [.int .i64 1] rfl rfl (row_lit W #[.int .i64 1] TN) (by simp; rfl) HLQ.out (by simp; omega) ?_)
                       intro v3 w3 ho3 hg3 hb3
                       go_loud (have hk3 : ∀ b, w.heap.size ≤ b → b < T → b ≠ gi → w3.heap[b]? = W.heap[b]? := fun b hb1 hb2 hb4 => (hg3.block b (by simp; omega) (fun e => by simp [Value.ownBlock] at e; omega)).trans (Below.heap_alloc W _ b (by omega)))
                       go_loud (have hz3 : W.heap.size ≤ w3.heap.size := by have := hg3.size; simp at this; omega)
                       go_loud (obtain ⟨f3, HM3⟩ := HOW.out.row (X := w3) HK.out (by rw [HS.out.1]; omega) hz3 hk3 hgne (x := t.getD 0 [] ++ [1]) (by rw [show icells (t.getD 0 [] ++ [1]) = icells (t.getD 0 []) ++ [.int .i64 1] by simp [icells]]; exact ho3) (by
                           rcases hb3 with hb3 | hb3
                           · exact .inl hb3
                           · right; intro k e; rw [hb3] at e; injection e with e; simp at e; omega))
                       go_loud (have c3 := (cell_heap (hk3 g hgB hgT hgne) 0).trans HK.out)
                       go_loud (have HM3 := Lib.hid HM3)
                       go_loud (have HR3 := Lib.hid ((hrW.alloc (.cells #[.int .i64 1] TN)).grown hg3 (fun b e => by have e2 : some gi = some b := e; injection e2 with e2; omega)))
                       go_loud (have HG3 := Lib.hid (grown_new (grown_alloc HGW.out (.cells #[.int .i64 1] TN)) hg3 (fun b e => by have e2 : some gi = some b := e; injection e2 with e2; omega)))
                       go_loud (obtain ⟨A3, d3, hv3, _, _, _, _⟩ := ho3.form)
                       go_loud (rw [List.length_append, icells_len, HS.out.2 0 (by omega), List.length_singleton] at hv3)
                       go_loud (subst hv3)
                       go_loud (clear hk3 hg3 hb3 ho3))
          go_ret
          exact ⟨_, _, rfl, Mine.up HM3.out, by rw [List.length_set, HS.out.1]; omega, rows_set HS.out (by omega) (by rw [List.length_append, HS.out.2 0 (by omega)]; simp; omega), (HR3.out.setCell (a := ⟨g, 0, none⟩) (show R < g by omega) _).more (by omega), grown_set HG3.out (p := ⟨g, 0, none⟩) (.inr hgB) _⟩
        · clear k0 k1 kf
          go_wp2
          go_ret
          exact ⟨_, [], rfl, Mine.up (mine_new hzW), by simp, by simp, (hrW.alloc _).more (by omega), grown_alloc HGW.out _⟩
        · clear k0 k1 kf
          go_wp2
          go_ret
          exact ⟨_, t, rfl, Mine.up HOW.out, by rw [HS.out.1]; omega, HS.out.rows (by omega), hrW.more (by omega), HGW.out⟩
end Go.Proofs.YtobgceebolmfcaaDoor
namespace Go.Proofs.YtobgceebolmfcaaDoor
open Go.RowKit
def DrawnTab (w : World) (e : Ending) (w' : World) : Prop := ∃ v t, e = .returned v ∧ IsR w' v t ∧ t.length ≤ 8 ∧ (∀ r ∈ t, r.length ≤ 4) ∧ Below w.heap.size w w'
def DrawnTabK (w : World) (e : Ending) (w' : World) : Prop := ∃ v t, ∃ k : Int, e = .returned (.tuple #[v, .int .i64 k]) ∧ IsR w' v t ∧ t.length ≤ 8 ∧ (∀ r ∈ t, r.length ≤ 4) ∧ (0 ≤ k ∧ k ≤ 6) ∧ Below w.heap.size w w'
def DrawnTabF (w : World) (e : Ending) (w' : World) : Prop := ∃ v t, ∃ a b : Int, e = .returned (.tuple #[v, .int .i64 a, .int .i64 b]) ∧ IsR w' v t ∧ t.length ≤ 8 ∧ (∀ r ∈ t, r.length ≤ 4) ∧ (-1 ≤ a ∧ a ≤ 8) ∧ (-1 ≤ b ∧ b ≤ 8) ∧ Below w.heap.size w w'
theorem two_cellN {W : World} {g : Nat} {a b : Int} {t : TypeId} (h : W.heap[g]? = some (.cells #[.int .i64 a, .int .i64 b] t (0, 0))) (y : Nat) (hy : y < 2) : ∃ z : Int, (z = a ∨ z = b) ∧ W.cell? ⟨g, y, none⟩ = some (.int .i64 z) := by
  rcases (show y = 0 ∨ y = 1 by omega) with rfl | rfl
  · exact ⟨a, .inl rfl, cell_of_row _ _ 0 _ _ _ h⟩
  · exact ⟨b, .inr rfl, cell_of_row _ _ 1 _ _ _ h⟩
end Go.Proofs.YtobgceebolmfcaaDoor
namespace Go.Proofs.YtobgceebolmfcaaDoor
open Go.RowKit
theorem MineB.grown {w w' : World} {B T R : Nat} {v : Value} {ll : List (List Bool)} (h : MineB w B T v ll) (hg : w.grownBy w' (some R)) (hR : R < B) : MineB w' B T v ll :=
  h.same hg.size fun k hB hT => hg.block k (Nat.lt_of_lt_of_le hT h.1) (fun e => by injection e; omega)
theorem Mine.heads {w : World} {B T : Nat} {v : Value} {t : List (List Int)} (h : Mine w B T v t) (h0 : 0 < t.length) :
    ∃ g c, v = .slice (some ⟨g, 0, none⟩) t.length c ∧ B ≤ g ∧ g < T ∧ ∀ k, k < t.length → ∃ A d, w.cell? ⟨g, k, none⟩ = some (.slice A (t.getD k []).length d) := by
  obtain ⟨hT, hv, hs, ho, hr⟩ := h
  have hl := hr.1
  obtain ⟨g, c, rfl⟩ := ho.slice (by omega)
  refine ⟨g, c, by rw [hl], (ho.ob g rfl).1, hv g rfl, fun k hk => ?_⟩
  obtain ⟨A, d, hA, _, _, _, _⟩ := (hr.2.1 k hk).1.form
  rw [icells_len] at hA
  exact ⟨A, d, by rw [(ho.cellAt k (by omega)).1, getD_at hs nilS (by omega), hA]⟩
theorem row_lit2 (w : World) (o : Obj) (cs : Array Value) (T : TypeId) : Row ((w.alloc o).alloc (.cells cs T)) (w.heap.size + 2) (some ⟨w.heap.size + 1, 0, none⟩) cs.toList := by
  have h := row_lit (w.alloc o) cs T
  have e : (w.alloc o).heap.size = w.heap.size + 1 := by simp
  rw [e] at h; exact h
def MaskDrawn (R q : Nat) (w : World) (e : Ending) (w' : World) : Prop :=
  ∃ v m, e = .returned v ∧ MineB w' w.heap.size w'.heap.size v m ∧ m.length ≤ 5 ∧ (∀ r ∈ m, r.length ≤ 4) ∧ RdN w' R (q + 24) ∧ w.grownBy w' (some R)
set_option maxHeartbeats 4000000 in
theorem mask_any (R q : Nat) (hq : q + 24 < 1000000) (t : List (List Int)) (v : Value) (B T : Nat) (w : World) (ho : Mine w B T v t) (hRB : R < B) (hl : t.length ≤ 4) (hrow : ∀ r ∈ t, r.length ≤ 4) (hr : RdN w R q) :
    Calls Tryd.prog 39 #[.pointer (some ⟨R, 0, none⟩), v] w (MaskDrawn R q w) := by
  have hR := hr.lt
  obtain ⟨A, c, hv, _, _, _⟩ := ho.is
  subst hv
  have HT := Lib.hid ho
  have HRW := Lib.hid hrow
  obtain ⟨n, hn⟩ : ∃ n, n = t.length := ⟨_, rfl⟩
  rw [← hn] at hl HT ⊢
  have HN := Lib.hid hn
  have HRA := Lib.hid (hr.alloc (.cells #[] TBS))
  clear ho hrow hr hn
  go_enter Tryd.func39, Tryd.ntmps39
  go_wp2_with fail
  refine (pick_any 3 (by omega) (by omega) R q (by omega) _ HRA.out).mono ?_
  rintro e w1 ⟨y, rfl, y0, y1, hr1, hg1⟩
  have HO := Lib.hid ((mineB_new (w := w) (B := w.heap.size) (Nat.le_refl _)).grown hg1 hR)
  have HG := Lib.hid (grown_trans (World.grownBy_alloc w _ (some R)) hg1)
  have HR := Lib.hid hr1
  clear hr1 hg1 HRA
  go_wp2
  go_loopw [5, 7] (fun mv i wr => ∃ (k : Nat) (m : List (List Bool)), k ≤ n ∧ i = .int .i64 k ∧ m.length = k ∧ (∀ r ∈ m, r.length ≤ 4) ∧ MineB wr w.heap.size wr.heap.size mv m ∧ RdN wr R (q + 1 + 4 * k) ∧ w.grownBy wr (some R)) (fun _ i _ => n - (intOf i).toNat)
  case atStart => exact ⟨0, [], Nat.zero_le _, rfl, rfl, by simp, HO.out.up, HR.out, HG.out⟩
  case round =>
    obtain ⟨k, m, hk, rfl, hmk, hmr, ho, hrd, hgr⟩ := hrel
    clear HO HR HG
    have HO := Lib.hid ho
    have HG := Lib.hid hgr
    have HM := Lib.hid hmr
    have hzr := hgr.size
    clear ho hgr hmr
    by_cases hlt : k < n
    · have hki : (k : Int) < (n : Int) := by omega
      have hkt : k < t.length := by rw [← HN.out]; exact hlt
      obtain ⟨g, c', hv', hgB, hgT, hcell⟩ := HT.out.heads (by omega)
      obtain ⟨Ak, dk, hck⟩ := hcell k hkt
      injection hv' with hv1 hv2 hv3
      subst hv1
      obtain ⟨d, hd⟩ : ∃ d, d = (t.getD k []).length := ⟨_, rfl⟩
      rw [← hd] at hck
      have hd4 : d ≤ 4 := by
        rw [hd, List.getD_eq_getElem?_getD, List.getElem?_eq_getElem hkt]; exact HRW.out _ (List.getElem_mem _)
      have HCK := Lib.hid hck
      have hTw := HT.out.1
      have hgR : g ≠ R := by omega
      clear hv2 hv3 hcell hck hd
      obtain ⟨wo, hwo⟩ : ∃ wo, wo = wr := ⟨_, rfl⟩
      subst hwo
      go_wp2
      go_loopw [8, 9] (fun rv j wr' => ∃ (p : Nat) (row : List Bool), p ≤ d ∧ j = .int .i64 p ∧ row.length = p ∧ Own1 TBo wr' wo.heap.size rv (bcells row) ∧ RdN wr' R (q + 1 + 4 * k + p) ∧ wo.grownBy wr' (some R)) (fun _ j _ => d - (intOf j).toNat)
      case atStart => exact ⟨0, [], Nat.zero_le _, rfl, rfl, own1_new (Nat.le_refl _), hrd.alloc _, World.grownBy_alloc wo _ (some R)⟩
      case round =>
        obtain ⟨p, row, hp, rfl, hrp, hro, hrd2, hgr⟩ := hrel
        have HRO := Lib.hid hro
        have HGQ := Lib.hid hgr
        have e1 := (cell_heap ((grown_trans HG.out hgr).block g (by omega) (fun e => by injection e; omega)) k).trans HCK.out
        have hzq := hgr.size
        clear hro hgr hrd
        by_cases hpd : p < d
        · have hpi : (p : Int) < (d : Int) := by omega
          go_wp2_with fail
          refine (pick_any 3 (by omega) (by omega) R (q + 1 + 4 * k + p) (by omega) _ hrd2).mono ?_
          rintro e w7 ⟨z, rfl, z0, z1, hr7, hg7⟩
          have HRO7 := Lib.hid (HRO.out.kept hg7 (fun b e => by have := (HRO.out.ob b e).1; intro e2; injection e2; omega))
          have HG7 := Lib.hid (grown_trans HGQ.out hg7)
          have hz7 := HG7.out.size
          have HLQ := Lib.hid (show (bcells row).length + 1 ≤ 1000000 by rw [bcells_len]; omega)
          clear hg7 hrd2 e1
          obtain ⟨f, hf⟩ : ∃ f, decide (z < 1 + y) = f := ⟨_, rfl⟩
          have HF := Lib.hid hf
          go_wp2_with (at_builtin
                       go_loud (refine app1 one_BS rfl (.tmp 30) (.tmp 35) rfl wo.heap.size _ _ rfl (HRO7.out.alloc _) (w7.heap.size + 1) (some ⟨w7.heap.size, 0, none⟩) 1 1 [.bool f] rfl rfl (row_lit w7 #[.bool f] TBo) (by simp; rfl) HLQ.out (by simp; omega) ?_)
                       intro v2 w2 ho2 hg2 _
                       go_loud (have HO2 := Lib.hid ho2)
                       go_loud (have HG2 := Lib.hid (grown_new (grown_alloc HG7.out (.cells #[.bool f] TBo)) hg2 (fun b e => ((HRO7.out.ob b e).1))))
                       go_loud (have HR2 := Lib.hid (((hr7.alloc (.cells #[.bool f] TBo)).grown hg2 (fun b e => by have := (HRO7.out.ob b e).1; omega)).more (q' := q + 1 + 4 * k + (p + 1)) (by omega)))
                       clear ho2 hg2)
          go_roundw
          case rel => exact ⟨p + 1, row ++ [f], by omega, by go_num, by simp; omega, by rw [bcells_app]; exact HO2.out, HR2.out, HG2.out⟩
          case measure => simp [intOf]; omega
        · have hpi : ¬ (p : Int) < (d : Int) := by omega
          have HOQ := Lib.hid (HO.out.grown HGQ.out hR)
          have HG8 := Lib.hid (grown_trans HG.out HGQ.out)
          obtain ⟨A6, c6, hv6, _, _, _, _⟩ := HRO.out.form
          rw [bcells_len, hrp] at hv6
          subst hv6
          have HRW2 := Lib.hid ((HRO.out.alloc (.cells #[.slice A6 p c6] TBS)).less hzr)
          have HFR := Lib.hid (show ∀ k, (Value.slice A6 p c6).ownBlock = some k → some k ≠ u5.ownBlock ∧ (wo.heap.size ≤ k ∨ k < w.heap.size) from fun k e => by
            have h1 := (HRO.out.ob k e).1
            exact ⟨fun e2 => by have := (HO.out.ob k e2.symm).2; omega, .inl h1⟩)
          have hml : m.length + 1 ≤ 1000000 := by omega
          go_wp2_with (at_builtin
                       go_loud (refine appMineB rfl (.tmp 37) (.tmp 39) rfl w.heap.size wo.heap.size u5 m rfl (HOQ.out.alloc _) (wr.heap.size + 1) (some ⟨wr.heap.size, 0, none⟩) 1 (.slice A6 p c6) row rfl (row_lit wr #[.slice A6 p c6] TBS) w.heap.size (Nat.le_refl _) HRW2.out HFR.out hml (by simp; omega) ?_)
                       intro v7 w7 ho7 hg7 _
                       go_loud (have HO7 := Lib.hid ho7)
                       go_loud (have HG7 := Lib.hid (grown_new (grown_alloc HG8.out (.cells #[.slice A6 p c6] TBS)) hg7 (fun b e => ((HOQ.out.ob b e).1))))
                       go_loud (have HR7 := Lib.hid (((hrd2.alloc (.cells #[.slice A6 p c6] TBS)).grown hg7 (fun b e => by have := (HOQ.out.ob b e).1; omega)).more (q' := q + 1 + 4 * (k + 1)) (by omega)))
                       clear ho7 hg7)
          go_roundw
          case rel => exact ⟨k + 1, m ++ [row], by omega, by go_num, by simp; omega, fun r hr => by
            rcases List.mem_append.1 hr with h | h
            · exact HM.out r h
            · simp at h; rw [h]; omega, HO7.out, HR7.out, HG7.out⟩
          case measure => simp [intOf]; omega
    · have hki : ¬ (k : Int) < (n : Int) := by omega
      go_wp2_with fail
      refine (pick_any 30 (by omega) (by omega) R (q + 1 + 4 * k) (by omega) _ hrd).mono ?_
      rintro e W ⟨x, rfl, x0, x1, hr2, hg2⟩
      have HO2 := Lib.hid (HO.out.grown hg2 hR)
      have HG2 := Lib.hid (grown_trans HG.out hg2)
      have hz2 := hg2.size
      have hrW := hr2.more (q' := q + 24) (by omega)
      clear hg2 hr2 hrd HO HG
      rcases (show x = 0 ∨ x ≠ 0 by omega) with hx | hx
      · subst hx
        have ho1 : Own1 TBo (W.alloc (.cells #[.bool true] TBo)) (W.heap.size) (.slice (some ⟨W.heap.size, 0, none⟩) 1 1) (bcells [true]) := own1_lit (w := W) (T := TBo) #[.bool true] (Nat.le_refl _) (by simp)
        have HRW2 := Lib.hid ((ho1.alloc (.cells #[.slice (some ⟨W.heap.size, 0, none⟩) 1 1] TBS)).less (Nat.le_trans hzr hz2))
        have HFR := Lib.hid (show ∀ k, (Value.slice (some ⟨W.heap.size, 0, none⟩) 1 1).ownBlock = some k → some k ≠ u5.ownBlock ∧ (wr.heap.size ≤ k ∨ k < w.heap.size) from fun k e => by
          have e2 : some W.heap.size = some k := e
          injection e2 with e2
          exact ⟨fun e3 => by have := (HO2.out.ob k e3.symm).2; omega, .inl (by omega)⟩)
        have hml : m.length + 1 ≤ 1000000 := by omega
        clear ho1
        go_wp2_with (at_builtin
                     go_loud (refine appMineB rfl (.tmp 44) (.tmp 46) rfl w.heap.size wr.heap.size u5 m rfl ((HO2.out.alloc _).alloc _) (W.heap.size + 2) (some ⟨W.heap.size + 1, 0, none⟩) 1 (.slice (some ⟨W.heap.size, 0, none⟩) 1 1) [true] rfl (row_lit2 W _ #[.slice (some ⟨W.heap.size, 0, none⟩) 1 1] TBS) w.heap.size (Nat.le_refl _) HRW2.out HFR.out hml (by simp; omega) ?_)
                     intro v7 w7 ho7 hg7 _
                     go_loud (have HO7 := Lib.hid ho7)
                     go_loud (have HG7 := Lib.hid (grown_new (grown_alloc (grown_alloc HG2.out _) _) hg7 (fun b e => ((HO2.out.ob b e).1))))
                     go_loud (have HR7 := Lib.hid (((hrW.alloc _).alloc _).grown hg7 (fun b e => by have := (HO2.out.ob b e).1; omega)))
                     clear ho7 hg7)
        go_ret
        exact ⟨v7, m ++ [[true]], rfl, HO7.out, by simp; omega, fun r hr => by
            rcases List.mem_append.1 hr with h | h
            · exact HM.out r h
            · simp at h; rw [h]; simp, HR7.out, HG7.out⟩
      · go_wp2
        go_ret
        exact ⟨_, m, rfl, HO2.out.up, by omega, HM.out, hrW, HG2.out⟩
end Go.Proofs.YtobgceebolmfcaaDoor
