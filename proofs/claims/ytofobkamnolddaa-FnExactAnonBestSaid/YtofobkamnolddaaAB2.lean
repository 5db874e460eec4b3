/- Contracts of the program: the best recoding. -/
import Derived.Test.YtofobkamnolddaaAB
import Derived.Test.YtofobkamnolddaaAS2
import Derived.Test.YtofobkamnolddaaRF
namespace Go.Proofs.Ytofobkamnolddaa
open Go.RowKit Go.Shelf
attribute [local go_sem] Oper.semAt_some
theorem iByCost_any (A : Option Addr) (n c : Nat) (w : World) : Calls Try.prog 46 #[.slice A n c] w fun e w' => e = .returned (.func (.func 57) #[] #[.pointer (some ⟨w.heap.size, 0, none⟩)]) ∧ w' = w.alloc (.cells #[.slice A n c] 23) := by
  go_enter Try.func46, Try.ntmps46
  go_wp2
  go_ret
  exact ⟨rfl, rfl⟩
theorem iPVal_is (W : World) (l : List Pn) (v : Value) (hv : IsP W v l) (g : Bool) (hg : okL l = g) (w : World) (hb : Below W.heap.size W w) :
    Calls Try.prog 44 #[v] w (Back (.bool g) W) := by
  subst hg
  obtain ⟨A, c, rfl, a1, a2, a3⟩ := hv
  exact (valid_any l A c w (a3.moved hb) (Nat.le_trans a1 a2)).mono fun _ _ h => ⟨h.1, hb.trans (h.2.mono hb.size)⟩
theorem iLadValid_is (W : World) (ll : List (List Int)) (u : Value) (hu : IsR W u ll) (g : Bool) (hg : ladOk ll = g) (w : World) (hb : Below W.heap.size W w) :
    Calls Try.prog 45 #[u] w (Back (.bool g) W) := by
  subst hg
  obtain ⟨A2, c2, rfl, b1, b2, b3⟩ := hu
  refine (iLadder_at ll _ rfl A2 c2 w (b3.moved hb) (Nat.le_trans b1 b2)).mono ?_
  rintro e w' ⟨he, q, rfl⟩
  exact ⟨he, below_draws hb q⟩
theorem keepB {w : World} {g : Nat} {o o' : Obj} (h : w.heap[g]? = some o) : (w.alloc o').heap[g]? = some o := ((Below.refl w.heap.size w).alloc (Nat.le_refl _) o' |>.block g (Array.getElem?_eq_some_iff.1 h).1).trans h
theorem blkR {w : World} {g : Nat} {t : TypeId} {a b c : Value} (h : w.heap[g]? = some (.cells #[a, b, c] t (0, 0))) :
    w.cell? ⟨g, 0, none⟩ = some a ∧ w.cell? ⟨g, 1, none⟩ = some b ∧ w.cell? ⟨g, 2, none⟩ = some c ∧ w.frozen? ⟨g, 0, none⟩ = false ∧ w.frozen? ⟨g, 1, none⟩ = false ∧ w.frozen? ⟨g, 2, none⟩ = false := by
  refine ⟨?_, ?_, ?_, ?_, ?_, ?_⟩ <;> simp [World.cell?, World.frozen?, h]
theorem blk_new (w : World) (o : Obj) (n : Nat) (hn : w.heap.size = n) : (w.alloc o).heap[n]? = some o := by rw [← hn]; exact heap_alloc_new w o
/-- A call of the best recoding begins with six blocks. -/
theorem six (w : World) (v u : Value) (k drop : Int) : ∃ W6, W6 = (((((w.alloc (.cells #[v] 29)).alloc (.cells #[u] 23)).alloc (.cells #[.int .i64 k] 3)).alloc (.cells #[.int .i64 drop] 3)).alloc (.cells #[.int .i64 0, .int .i64 0, .int .i64 0] TRc)).alloc (.cells #[.bool false] 4) ∧
    Below w.heap.size w W6 ∧ W6.heap.size = w.heap.size + 6 ∧ Boxed W6 w.heap.size 29 v ∧ Boxed W6 (w.heap.size + 1) 23 u ∧ Boxed W6 (w.heap.size + 1 + 1) 3 (.int .i64 k) ∧
    Boxed W6 (w.heap.size + 1 + 1 + 1) 3 (.int .i64 drop) ∧ W6.heap[w.heap.size + 1 + 1 + 1 + 1]? = some (.cells #[.int .i64 0, .int .i64 0, .int .i64 0] TRc) ∧ Boxed W6 (w.heap.size + 1 + 1 + 1 + 1 + 1) 4 (.bool false) := by
  refine ⟨_, rfl, ?_, by simp, keepB (keepB (keepB (keepB (keepB (heap_alloc_new _ _))))), keepB (keepB (keepB (keepB (blk_new _ _ _ (by simp))))), keepB (keepB (keepB (blk_new _ _ _ (by simp)))), keepB (keepB (blk_new _ _ _ (by simp))), keepB (blk_new _ _ _ (by simp)), blk_new _ _ _ (by simp)⟩
  exact ((((((Below.refl _ _).alloc (Nat.le_refl _) _).alloc (by simp) _).alloc (by simp; omega) _).alloc (by simp; omega) _).alloc (by simp; omega) _).alloc (by simp; omega) _
theorem keeps_below {X Y : World} (h : Below X.heap.size X Y) (B : Nat) : KeepsFrom B X Y := ⟨h.size, fun k _ _ hk _ => (h.block k (Array.getElem?_eq_some_iff.1 hk).1).trans hk⟩
theorem set3R {w : World} {g : Nat} {t : TypeId} {a0 a1 a2 : Value} (h : w.heap[g]? = some (.cells #[a0, a1, a2] t (0, 0))) (b0 b1 b2 : Value) :
    (((w.setCell ⟨g, 0, none⟩ b0).setCell ⟨g, 1, none⟩ b1).setCell ⟨g, 2, none⟩ b2).heap[g]? = some (.cells #[b0, b1, b2] t (0, 0)) := by
  simp [World.setCell, Array.getElem?_modify, h]
theorem fin4 {w : World} {g : Nat} {t tb : TypeId} {a0 a1 a2 v0 : Value} (h : w.heap[g]? = some (.cells #[a0, a1, a2] t (0, 0))) (h2 : Boxed w (g + 1) tb v0) (b0 b1 b2 v : Value) :
    ((((w.setCell ⟨g, 0, none⟩ b0).setCell ⟨g, 1, none⟩ b1).setCell ⟨g, 2, none⟩ b2).setCell ⟨g + 1, 0, none⟩ v).heap[g]? = some (.cells #[b0, b1, b2] t (0, 0)) ∧
    Boxed ((((w.setCell ⟨g, 0, none⟩ b0).setCell ⟨g, 1, none⟩ b1).setCell ⟨g, 2, none⟩ b2).setCell ⟨g + 1, 0, none⟩ v) (g + 1) tb v ∧
    (∀ N X, N ≤ g → Below N X w → Below N X ((((w.setCell ⟨g, 0, none⟩ b0).setCell ⟨g, 1, none⟩ b1).setCell ⟨g, 2, none⟩ b2).setCell ⟨g + 1, 0, none⟩ v)) ∧
    (∀ N, KeepsFrom N w ((((w.setCell ⟨g, 0, none⟩ b0).setCell ⟨g, 1, none⟩ b1).setCell ⟨g, 2, none⟩ b2).setCell ⟨g + 1, 0, none⟩ v)) := by
  refine ⟨(Below.heap_setCell _ ⟨g + 1, 0, none⟩ v g (by show g ≠ g + 1; omega)).trans (set3R h _ _ _), ?_, fun N X hN hb => ?_, fun N => ?_⟩
  · have k : ∀ j, ∀ u, ∀ y : World, (y.setCell ⟨g, j, none⟩ u).heap[g + 1]? = y.heap[g + 1]? := fun j u y => Below.heap_setCell _ ⟨g, j, none⟩ u (g + 1) (by show g + 1 ≠ g; omega)
    have h3 : Boxed (((w.setCell ⟨g, 0, none⟩ b0).setCell ⟨g, 1, none⟩ b1).setCell ⟨g, 2, none⟩ b2) (g + 1) tb v0 := by
      unfold Boxed at *; rw [k, k, k]; exact h2
    exact h3.set v
  · exact ((((hb.setCell (p := ⟨g, 0, none⟩) hN b0).setCell (p := ⟨g, 1, none⟩) hN b1).setCell (p := ⟨g, 2, none⟩) hN b2).setCell (p := ⟨g + 1, 0, none⟩) (by show N ≤ g + 1; omega) v)
  · exact ((((KeepsOthers.setCell w ⟨g, 0, none⟩ b0).trans (KeepsOthers.setCell _ ⟨g, 1, none⟩ b1)).trans (KeepsOthers.setCell _ ⟨g, 2, none⟩ b2)).trans (KeepsOthers.setCell _ ⟨g + 1, 0, none⟩ v)).from _
theorem abest_neg {l : List Pn} {ll : List (List Int)} {k drop : Int} (h : drop < 0) : abest l ll k drop = none := by
  cases hb : abest l ll k drop with
  | none => rfl
  | some b =>
    obtain ⟨h1, h2, k1, k2, g1, g2, _⟩ := abest_some hb
    rw [adrop_at (ad_parts.2 ⟨gr_parts.2 ⟨h1, g1⟩, k1, k2⟩)] at g2
    omega
theorem abest_not {l : List Pn} {ll : List (List Int)} {k drop : Int} (h : abOk l ll k = false) : abest l ll k drop = none := by unfold abest; rw [h]; rfl
set_option maxRecDepth 100000 in
set_option maxHeartbeats 1000000 in
theorem iABest_is (W : World) (l : List Pn) (v : Value) (hv : IsP W v l) (ll : List (List Int)) (u : Value) (hu : IsR W u ll) (k drop : Int) (b : Option Rc) (hg : abest l ll k drop = b) (w : World) (hb : Below W.heap.size W w) :
    Calls Try.prog 27 #[v, u, .int .i64 k, .int .i64 drop] w (Back (bestS b) W) := by
  obtain ⟨W6, hW, hb6, hs6, h0, h1, h2, h3, h4, h5⟩ := six w v u k drop
  have HB6 := Lib.hid (hb.trans (hb6.mono hb.size))
  have HB0 := Lib.hid (show Below W.heap.size W W6 from HB6.out)
  have HV := Lib.hid (hv.below HB6.out)
  have HU := Lib.hid (hu.below HB6.out)
  have HG := Lib.hid hg
  have hWw := hb.size
  clear hg
  obtain ⟨Av, cv, hv2, _, _, _⟩ := hv
  obtain ⟨Au, cu, hu2, _, _, _⟩ := hu
  subst hv2 hu2
  have HP := Lib.hid (show ∀ w', Below (w.heap.size + 4) W6 w' → Boxed w' w.heap.size 29 (.slice Av l.length cv) ∧ Boxed w' (w.heap.size + 1) 23 (.slice Au ll.length cu) ∧ Boxed w' (w.heap.size + 1 + 1) 3 (.int .i64 k) ∧ Boxed w' (w.heap.size + 1 + 1 + 1) 3 (.int .i64 drop) from
    fun w' h => ⟨(h.block _ (by omega)).trans h0, (h.block _ (by omega)).trans h1, (h.block _ (by omega)).trans h2, (h.block _ (by omega)).trans h3⟩)
  have HR := Lib.hid (show ∀ w', Below W6.heap.size W6 w' → w'.heap[w.heap.size + 1 + 1 + 1 + 1]? = some (.cells #[.int .i64 0, .int .i64 0, .int .i64 0] TRc) ∧ Boxed w' (w.heap.size + 1 + 1 + 1 + 1 + 1) 4 (.bool false) from
    fun w' h => ⟨(h.block _ (by omega)).trans h4, (h.block _ (by omega)).trans h5⟩)
  have HS := Lib.hid hs6
  clear h0 h1 h2 h3 h4 h5 hb6 hs6
  refine (callsIn_wide (n := 6)).1 ?_
  refine callsIn_of_wp_marks Try.func27 rfl trivial ?_ rfl
  simp only [Try.ntmps27, List.size_toArray, List.length_cons, List.length_nil, Nat.reduceAdd, Nat.reduceSub, Array.replicate_succ, Array.replicate_zero, List.push_toArray, List.append_toArray, List.nil_append, List.cons_append]
  gi_wp2_with fail
  rw [← hW]
  clear hW
  refine ⟨trivial, ?_⟩
  refine (callsIn_wide.2 (iPVal_is W6 l _ HV.out _ rfl _ (Below.refl _ _))).mono ?_
  rintro e w1 ⟨rfl, b1⟩
  cases hok1 : okL l
  · have HE := Lib.hid (show b = none from by rw [← HG.out]; exact abest_not (by rw [abOk, hok1]; rfl))
    obtain ⟨c0, c1, c2, f0, f1, f2⟩ := blkR (HR.out w1 b1).1
    have c3 := (HR.out w1 b1).2.cell
    have f3 := (HR.out w1 b1).2.frozen
    have hlt := (b1).size
    have hs6 := HS.out
    gi_wp2
    refine ⟨trivial, ?_⟩
    gi_wp2
    refine ⟨trivial, ?_⟩
    gi_wp2
    refine ⟨bestS none, by simp [results, Try.results27, go_sem, bestS, rlow, Rc.val, *], by rw [HE.out], ?_⟩
    exact HB6.out.trans (Below.mono ((((((b1).mono (show w.heap.size ≤ W6.heap.size by omega)).setCell (p := ⟨w.heap.size + 1 + 1 + 1 + 1, 0, none⟩) (by simp; omega) _).setCell (p := ⟨w.heap.size + 1 + 1 + 1 + 1, 1, none⟩) (by simp; omega) _).setCell (p := ⟨w.heap.size + 1 + 1 + 1 + 1, 2, none⟩) (by simp; omega) _).setCell (p := ⟨w.heap.size + 1 + 1 + 1 + 1 + 1, 0, none⟩) (by simp; omega) _) hWw)
  have HOK1 := Lib.hid hok1
  clear hok1
  have hs6 := HS.out
  obtain ⟨p0, p1, p2, p3⟩ := HP.out w1 (b1.mono (by omega))
  have p1c := p1.cell
  clear p0 p1 p2 p3
  gi_wp2_with fail
  refine ⟨trivial, ?_⟩
  refine (callsIn_wide.2 (iLadValid_is W6 ll _ HU.out _ rfl _ b1)).mono ?_
  rintro e w2 ⟨rfl, b2⟩
  clear p1c
  cases hok2 : ladOk ll
  · have HE := Lib.hid (show b = none from by rw [← HG.out]; exact abest_not (by rw [abOk, hok2, Bool.and_false]; rfl))
    obtain ⟨c0, c1, c2, f0, f1, f2⟩ := blkR (HR.out w2 b2).1
    have c3 := (HR.out w2 b2).2.cell
    have f3 := (HR.out w2 b2).2.frozen
    have hlt := (b2).size
    have hs6 := HS.out
    gi_wp2
    refine ⟨trivial, ?_⟩
    gi_wp2
    refine ⟨bestS none, by simp [results, Try.results27, go_sem, bestS, rlow, Rc.val, *], by rw [HE.out], ?_⟩
    exact HB6.out.trans (Below.mono ((((((b2).mono (show w.heap.size ≤ W6.heap.size by omega)).setCell (p := ⟨w.heap.size + 1 + 1 + 1 + 1, 0, none⟩) (by simp; omega) _).setCell (p := ⟨w.heap.size + 1 + 1 + 1 + 1, 1, none⟩) (by simp; omega) _).setCell (p := ⟨w.heap.size + 1 + 1 + 1 + 1, 2, none⟩) (by simp; omega) _).setCell (p := ⟨w.heap.size + 1 + 1 + 1 + 1 + 1, 0, none⟩) (by simp; omega) _) hWw)
  have HOK2 := Lib.hid hok2
  clear hok2
  obtain ⟨p0, p1, p2, p3⟩ := HP.out w2 (b2.mono (by omega))
  have p2c := p2.cell
  have p3c := p3.cell
  clear p0 p1 p2 p3
  gi_wp2_with fail
  refine ⟨trivial, ?_⟩
  refine (callsIn_wide.2 (iNeed_any k _)).mono ?_
  rintro e w' ⟨rfl, rfl⟩
  cases hok3 : in3 k 1 40
  · have HE := Lib.hid (show b = none from by rw [← HG.out]; exact abest_not (by rw [abOk, hok3, Bool.and_false]))
    obtain ⟨c0, c1, c2, f0, f1, f2⟩ := blkR (HR.out w2 b2).1
    have c3 := (HR.out w2 b2).2.cell
    have f3 := (HR.out w2 b2).2.frozen
    have hlt := (b2).size
    have hs6 := HS.out
    gi_wp2
    refine ⟨bestS none, by simp [results, Try.results27, go_sem, bestS, rlow, Rc.val, *], by rw [HE.out], ?_⟩
    exact HB6.out.trans (Below.mono ((((((b2).mono (show w.heap.size ≤ W6.heap.size by omega)).setCell (p := ⟨w.heap.size + 1 + 1 + 1 + 1, 0, none⟩) (by simp; omega) _).setCell (p := ⟨w.heap.size + 1 + 1 + 1 + 1, 1, none⟩) (by simp; omega) _).setCell (p := ⟨w.heap.size + 1 + 1 + 1 + 1, 2, none⟩) (by simp; omega) _).setCell (p := ⟨w.heap.size + 1 + 1 + 1 + 1 + 1, 0, none⟩) (by simp; omega) _) hWw)
  have HOK3 := Lib.hid (show abOk l ll k = true by rw [abOk, HOK1.out, HOK2.out, hok3]; rfl)
  clear hok3
  by_cases hd0 : drop < 0
  · have HE := Lib.hid (show b = none from by rw [← HG.out]; exact abest_neg hd0)
    obtain ⟨c0, c1, c2, f0, f1, f2⟩ := blkR (HR.out w2 b2).1
    have c3 := (HR.out w2 b2).2.cell
    have f3 := (HR.out w2 b2).2.frozen
    have hlt := (b2).size
    have hs6 := HS.out
    gi_wp2
    refine ⟨bestS none, by simp [results, Try.results27, go_sem, bestS, rlow, Rc.val, *], by rw [HE.out], ?_⟩
    exact HB6.out.trans (Below.mono ((((((b2).mono (show w.heap.size ≤ W6.heap.size by omega)).setCell (p := ⟨w.heap.size + 1 + 1 + 1 + 1, 0, none⟩) (by simp; omega) _).setCell (p := ⟨w.heap.size + 1 + 1 + 1 + 1, 1, none⟩) (by simp; omega) _).setCell (p := ⟨w.heap.size + 1 + 1 + 1 + 1, 2, none⟩) (by simp; omega) _).setCell (p := ⟨w.heap.size + 1 + 1 + 1 + 1 + 1, 0, none⟩) (by simp; omega) _) hWw)
  obtain ⟨p0, p1, _, _⟩ := HP.out w2 (b2.mono (by omega))
  have p1c := p1.cell
  clear p0 p1 p2c
  gi_wp2_with fail
  refine ⟨trivial, ?_⟩
  refine (callsIn_wide.2 (iByCost_any Au ll.length cu _)).mono ?_
  rintro e w3 ⟨rfl, rfl⟩
  gi_wp2
  have hc7 := heap_alloc_new w2 (.cells #[.slice Au ll.length cu] 23)
  obtain ⟨W7, hW7⟩ : ∃ W7, W7 = w2.alloc (.cells #[.slice Au ll.length cu] 23) := ⟨_, rfl⟩
  have hlt7 : w2.heap.size < W7.heap.size := by rw [hW7]; simp
  have b7 : Below W6.heap.size W6 W7 := by rw [hW7]; exact b2.alloc b2.size _
  rw [← hW7] at hc7 ⊢
  have hz7 := b7.size
  have hs6 := HS.out
  have hU7 := HU.out.below b7
  have HC7 := Lib.hid (show W7.cell? ⟨w2.heap.size, 0, none⟩ = some (.slice Au ll.length cu) from cell_of_row W7 _ 0 _ _ _ hc7)
  have hfind := abest_find l ll k drop HOK3.out
  rw [HG.out] at hfind
  have HF := Lib.hid hfind
  have HB7 := Lib.hid b7
  clear hc7 hW7 p1c b1 b2 hb hfind b7
  refine wpIn_rangeFunc_ownH (α := Rc) rfl (by omega) (gf := 57) (lb := #[.pointer (some ⟨w2.heap.size, 0, none⟩)]) rfl trivial (enters_of Try.func57 (by kernel_rfl) rfl)
    (ord_stops 5 (by omega) w2.heap.size ll HOK2.out _ W7 hU7 (by omega) HC7.out) belowK_t (belowK_b (Nat.le_refl _)) (Below.refl _ _) (fun _ => rfl)
    (fun pre X => (∀ r ∈ pre, drop < adrop l ll r k) ∧ Below W7.heap.size W7 X)
    (fun c pre X => (c = .ret ∧ ∃ z r, pre = z ++ [r] ∧ (∀ s ∈ z, drop < adrop l ll s k) ∧ adrop l ll r k ≤ drop ∧ X.heap[w.heap.size + 1 + 1 + 1 + 1]? = some (.cells #[.int .i64 r.area, .int .i64 r.job, .int .i64 r.sex] TRc (0, 0)) ∧ Boxed X (w.heap.size + 1 + 1 + 1 + 1 + 1) 4 (.bool true)) ∧ Below w.heap.size W6 X)
    (OwnFrom.and (ownFrom_pure _ _) (ownFrom_below (Nat.le_refl _) (Nat.le_refl _)))
    (fun c => OwnFrom.and (fun s X Y row hs hg hr => by
      obtain ⟨hc, z, r, e1, e2, e3, e4, e5⟩ := hs
      exact ⟨hc, z, r, e1, e2, e3, (grownBy_keeps_cells hg (fun r e => (hr r e).2) e4 rfl).trans e4, boxed_own _ 4 (fun (_ : Unit) => Value.bool true) () X Y row e5 hg (fun r e => (hr r e).2)⟩) (ownFrom_below (by omega) (by omega)))
    ⟨(fun _ h => by cases h), Below.refl _ _⟩
    (fun x a' X => ∃ Bx, W7.heap.size ≤ Bx ∧ X.heap[Bx]? = some (.cells #[.int .i64 x.area, .int .i64 x.job, .int .i64 x.sex] TRc (0, 0)) ∧ a' = { tmps := #[.slice Av l.length cv, .slice Au ll.length cu, .int .i64 k, .int .i64 drop, .pointer (some ⟨w.heap.size, 0, none⟩), .pointer (some ⟨w.heap.size + 1, 0, none⟩), .pointer (some ⟨w.heap.size + 1 + 1, 0, none⟩), .pointer (some ⟨w.heap.size + 1 + 1 + 1, 0, none⟩), .pointer (some ⟨w.heap.size + 1 + 1 + 1 + 1, 0, none⟩), .pointer (some ⟨w.heap.size + 1 + 1 + 1 + 1 + 1, 0, none⟩), .pointer (some ⟨Bx, 0, none⟩),
      .slice Av l.length cv, .bool true, .bool false, .bool false, .slice Au ll.length cu, .bool true, .bool false, .bool false, .bool false, .int .i64 k, .bool true, .bool false, .bool false, .bool false, .int .i64 drop, .bool (decide (drop < 0)), .bool (decide (drop < 0)), undef, .slice Au ll.length cu, .func (.func 57) #[] #[.pointer (some ⟨w2.heap.size, 0, none⟩)], x.val, undef, undef, undef, undef, undef, undef, undef, undef, undef], defers := [] })
    (fun x a' _ X Y row hs hg hr => by obtain ⟨Bx, e1, e2, e3⟩ := hs; exact ⟨Bx, e1, (grownBy_keeps_cells hg (fun r e => (hr r e).2) e2 rfl).trans e2, e3⟩)
    ?assign ?body ?done ?stop
  case assign =>
    rintro l' pre x X K ⟨hp, hbX⟩ hK
    have hzX := hbX.size
    obtain ⟨xa, xj, xs⟩ := x
    gi_wp2
    exact hK _ _ ((KeepsOthers.alloc _ _).from _) ((Below.refl _ X).alloc hzX _) ⟨hp, hbX.alloc hzX _⟩ ⟨X.heap.size, hzX, heap_alloc_new X _, rfl⟩
  case body =>
    rintro l' pre x a' X _ _ ⟨hp, hbX⟩ ⟨Bx, hBx, hx, rfl⟩ hlt
    have HP7 := Lib.hid hp
    have b6X : Below W6.heap.size W6 X := HB7.out.trans (hbX.mono hz7)
    have hzX := hbX.size
    obtain ⟨p0, p1, p2, p3⟩ := HP.out X (b6X.mono (by omega))
    have p0c := p0.cell
    have p1c := p1.cell
    have p2c := p2.cell
    have p3c := p3.cell
    obtain ⟨c0, c1, c2, _, _, _⟩ := blkR hx
    have hBxX : Bx < X.heap.size := (Array.getElem?_eq_some_iff.1 hx).1
    have hmx : Try.prog.follows .mixedOrders = true := by kernel_rfl
    obtain ⟨d, hd⟩ : ∃ d, adrop l ll x k = d := ⟨_, rfl⟩
    have HD := Lib.hid hd
    have HX := Lib.hid hx
    have HBX := Lib.hid hbX
    have HB6X := Lib.hid b6X
    clear p0 p1 p2 p3 hp hlt hx hbX b6X hd
    gi_wp2
    have hcall : Calls Try.prog 14 #[.slice Av l.length cv, .slice Au ll.length cu, .agg #[.int .i64 x.area, .int .i64 x.job, .int .i64 x.sex], .int .i64 k] X.drew (Back (.int .i64 d) X) :=
      iADrop_is X l _ (HV.out.below HB6X.out) ll _ (HU.out.below HB6X.out) x k d HD.out _ (Below.refl _ _).drew
    have HCALL := Lib.hid hcall
    have HPX := Lib.hid (show ∀ w9, Below X.heap.size X w9 → w9.cell? ⟨w.heap.size + 1 + 1 + 1, 0, none⟩ = some (.int .i64 drop) from fun w9 b9 => ((HP.out w9 ((HB6X.out.trans (b9.mono HB6X.out.size)).mono (by omega))).2.2.2).cell)
    clear hcall
    have HRX := Lib.hid (show ∀ w9, Below X.heap.size X w9 → w9.heap[Bx]? = some (.cells #[.int .i64 x.area, .int .i64 x.job, .int .i64 x.sex] TRc (0, 0)) ∧ w9.heap[w.heap.size + 1 + 1 + 1 + 1]? = some (.cells #[.int .i64 0, .int .i64 0, .int .i64 0] TRc) ∧ Boxed w9 (w.heap.size + 1 + 1 + 1 + 1 + 1) 4 (.bool false) from
      fun w9 b9 => ⟨(b9.block Bx hBxX).trans HX.out, HR.out w9 (HB6X.out.trans (b9.mono HB6X.out.size))⟩)
    have hn1 : ¬ Bx = w.heap.size + 1 + 1 + 1 + 1 := by omega
    have hn2 : ¬ Bx = w.heap.size + 1 + 1 + 1 + 1 + 1 := by omega
    have hS : (fun y : World => Below X.heap.size X y ∧ y.cell? ⟨w.heap.size, 0, none⟩ = some (.slice Av l.length cv) ∧ y.cell? ⟨w.heap.size + 1, 0, none⟩ = some (.slice Au ll.length cu) ∧ y.cell? ⟨w.heap.size + 1 + 1, 0, none⟩ = some (.int .i64 k) ∧ y.cell? ⟨w.heap.size + 1 + 1 + 1, 0, none⟩ = some (.int .i64 drop) ∧ y.cell? ⟨Bx, 0, none⟩ = some (.int .i64 x.area) ∧ y.cell? ⟨Bx, 1, none⟩ = some (.int .i64 x.job) ∧ y.cell? ⟨Bx, 2, none⟩ = some (.int .i64 x.sex)) X.drew := ⟨(Below.refl _ _).drew, p0c, p1c, p2c, p3c, c0, c1, c2⟩
    refine region_round (S := fun y : World => Below X.heap.size X y ∧ y.cell? ⟨w.heap.size, 0, none⟩ = some (.slice Av l.length cv) ∧ y.cell? ⟨w.heap.size + 1, 0, none⟩ = some (.slice Au ll.length cu) ∧ y.cell? ⟨w.heap.size + 1 + 1, 0, none⟩ = some (.int .i64 k) ∧ y.cell? ⟨w.heap.size + 1 + 1 + 1, 0, none⟩ = some (.int .i64 drop) ∧ y.cell? ⟨Bx, 0, none⟩ = some (.int .i64 x.area) ∧ y.cell? ⟨Bx, 1, none⟩ = some (.int .i64 x.job) ∧ y.cell? ⟨Bx, 2, none⟩ = some (.int .i64 x.sex))
      (Q := fun e a y => e = .normal ∧ Below X.heap.size X y ∧ a = { tmps := #[.slice Av l.length cv, .slice Au ll.length cu, .int .i64 k, .int .i64 drop, .pointer (some ⟨w.heap.size, 0, none⟩), .pointer (some ⟨w.heap.size + 1, 0, none⟩), .pointer (some ⟨w.heap.size + 1 + 1, 0, none⟩), .pointer (some ⟨w.heap.size + 1 + 1 + 1, 0, none⟩), .pointer (some ⟨w.heap.size + 1 + 1 + 1 + 1, 0, none⟩), .pointer (some ⟨w.heap.size + 1 + 1 + 1 + 1 + 1, 0, none⟩), .pointer (some ⟨Bx, 0, none⟩), .slice Av l.length cv, .bool true, .bool false, .bool false, .slice Au ll.length cu, .bool true, .bool false, .bool false, .bool false, .int .i64 k, .bool true, .bool false, .bool false, .bool false, .int .i64 drop, .bool (decide (drop < 0)), .bool (decide (drop < 0)), undef, .slice Au ll.length cu, .func (.func 57) #[] #[.pointer (some ⟨w2.heap.size, 0, none⟩)], x.val, .slice Av l.length cv, .slice Au ll.length cu, .agg #[.int .i64 x.area, .int .i64 x.job, .int .i64 x.sex], .int .i64 k, .int .i64 d, .int .i64 drop, .bool (decide (d ≤ drop)), undef, undef], defers := [] }) hmx (by kernel_rfl) (fun ⟨_, _, h⟩ => by cases h.1) ?_ ?_
    rotate_left
    · refine wpAnyH_take (i := 0) (v := .slice Av l.length cv) rfl (by kernel_rfl) (by kernel_rfl) (by kernel_rfl) (fun _ _ _ h => by cases h.1) (Or.inl ⟨by rfl, ?_⟩) hS ?_
      · (intro y hy; obtain ⟨_, y0, y1, y2, y3, y4, y5, y6⟩ := hy; go_simp)
      simp only [Act.put, List.setIfInBounds_toArray]
      refine wpAnyH_take (i := 1) (v := .slice Au ll.length cu) rfl (by kernel_rfl) (by kernel_rfl) (by kernel_rfl) (fun _ _ _ h => by cases h.1) (Or.inl ⟨by rfl, ?_⟩) hS ?_
      · (intro y hy; obtain ⟨_, y0, y1, y2, y3, y4, y5, y6⟩ := hy; go_simp)
      simp only [Act.put]
      refine wpAnyH_take (i := 2) (v := .agg #[.int .i64 x.area, .int .i64 x.job, .int .i64 x.sex]) rfl (by kernel_rfl) (by kernel_rfl) (by kernel_rfl) (fun _ _ _ h => by cases h.1) (Or.inl ⟨by rfl, ?_⟩) hS ?_
      · (intro y hy; obtain ⟨_, y0, y1, y2, y3, y4, y5, y6⟩ := hy; go_simp)
      simp only [Act.put]
      refine wpAnyH_take (i := 3) (v := .int .i64 k) rfl (by kernel_rfl) (by kernel_rfl) (by kernel_rfl) (fun _ _ _ h => by cases h.1) (Or.inl ⟨by rfl, ?_⟩) hS ?_
      · (intro y hy; obtain ⟨_, y0, y1, y2, y3, y4, y5, y6⟩ := hy; go_simp)
      simp only [Act.put]
      refine wpAnyH_take (i := 5) (v := .int .i64 drop) rfl (by kernel_rfl) (by kernel_rfl) (by kernel_rfl) (fun _ _ _ h => by cases h.1) (Or.inl ⟨by rfl, ?_⟩) hS ?_
      · (intro y hy; obtain ⟨_, y0, y1, y2, y3, y4, y5, y6⟩ := hy; go_simp)
      simp only [Act.put]
      refine wpAnyH_all (rs := [4]) (by kernel_rfl) (by simp) (fun i hi => ?_)
      obtain rfl : i = 4 := by simpa using hi
      clear hi
      unfold wpOp
      simp only [List.getElem?_toArray, List.getElem?_cons_succ, List.getElem?_cons_zero]
      rw [if_pos (by rfl)]
      left
      unfold Oper.wp
      go_simp
      refine HCALL.out.mono ?_
      rintro e w9 ⟨rfl, b9⟩
      have hb9 : Below X.heap.size X w9 := b9
      have hS9 : (fun y : World => Below X.heap.size X y ∧ y.cell? ⟨w.heap.size, 0, none⟩ = some (.slice Av l.length cv) ∧ y.cell? ⟨w.heap.size + 1, 0, none⟩ = some (.slice Au ll.length cu) ∧ y.cell? ⟨w.heap.size + 1 + 1, 0, none⟩ = some (.int .i64 k) ∧ y.cell? ⟨w.heap.size + 1 + 1 + 1, 0, none⟩ = some (.int .i64 drop) ∧ y.cell? ⟨Bx, 0, none⟩ = some (.int .i64 x.area) ∧ y.cell? ⟨Bx, 1, none⟩ = some (.int .i64 x.job) ∧ y.cell? ⟨Bx, 2, none⟩ = some (.int .i64 x.sex)) w9 :=
        ⟨hb9, (hb9.cell (p := ⟨w.heap.size, 0, none⟩) (by show w.heap.size < _; omega)).trans p0c, (hb9.cell (p := ⟨w.heap.size + 1, 0, none⟩) (by show w.heap.size + 1 < _; omega)).trans p1c, (hb9.cell (p := ⟨w.heap.size + 1 + 1, 0, none⟩) (by show w.heap.size + 1 + 1 < _; omega)).trans p2c, (hb9.cell (p := ⟨w.heap.size + 1 + 1 + 1, 0, none⟩) (by show w.heap.size + 1 + 1 + 1 < _; omega)).trans p3c,
          (hb9.cell (p := ⟨Bx, 0, none⟩) hBxX).trans c0, (hb9.cell (p := ⟨Bx, 1, none⟩) hBxX).trans c1, (hb9.cell (p := ⟨Bx, 2, none⟩) hBxX).trans c2⟩
      refine ⟨hS9, ?_⟩
      try simp only [Act.put]
      refine wpAnyH_take (i := 6) (v := .bool (decide (d ≤ drop))) rfl (by kernel_rfl) (by kernel_rfl) (by kernel_rfl) (fun _ _ _ h => by cases h.1) (Or.inl ⟨by rfl, ?_⟩) hS9 ?_
      · (intro y hy; go_simp)
      simp only [Act.put, List.setIfInBounds_toArray]
      exact wpAnyH_done (by kernel_rfl) ⟨rfl, hb9, rfl⟩ _
    rintro e a' w9 ⟨rfl, b9, rfl⟩
    have HB9 := Lib.hid b9
    obtain ⟨x0, x1, x2, _, _, _⟩ := blkR (HRX.out w9 b9).1
    obtain ⟨r0, r1, r2, g0, g1, g2⟩ := blkR (HRX.out w9 b9).2.1
    have r3 := (HRX.out w9 b9).2.2.cell
    have g3 := (HRX.out w9 b9).2.2.frozen
    clear b9 p0c p1c p2c p3c c0 c1 c2 hS
    by_cases hdd : d ≤ drop
    · simp only [Exit.then]
      gi_wp2
      obtain ⟨q1, q2, q3, q4⟩ := fin4 (HRX.out _ HB9.out).2.1 (HRX.out _ HB9.out).2.2 (.int .i64 x.area) (.int .i64 x.job) (.int .i64 x.sex) (.bool true)
      have hb := q3 w.heap.size W6 (by omega) ((HB6X.out.trans (HB9.out.mono HB6X.out.size)).mono (show w.heap.size ≤ W6.heap.size by omega))
      have hk := (keeps_below HB9.out W7.heap.size).trans (q4 _)
      exact ⟨hk, ⟨rfl, pre, x, rfl, HP7.out, by rw [HD.out]; exact hdd, q1, q2⟩, hb⟩
    · simp only [Exit.then]
      gi_wp2
      refine ⟨keeps_below HB9.out _, HB9.out.mono hzX, fun r hr => ?_, HBX.out.trans (HB9.out.mono hzX)⟩
      rcases List.mem_append.1 hr with h | h
      · exact HP7.out r h
      · rw [List.mem_singleton.1 h, HD.out]; omega
  case done =>
    rintro D ys X hD rfl ⟨hp, hbX⟩ hK
    have b6X : Below W6.heap.size W6 X := HB7.out.trans (hbX.mono hz7)
    have HE := Lib.hid (show b = none by
      rw [HF.out, List.find?_eq_none]
      intro r hr
      have := hp r hr
      simp only [decide_eq_true_eq]; omega)
    obtain ⟨c0, c1, c2, f0, f1, f2⟩ := blkR (HR.out X b6X).1
    have c3 := (HR.out X b6X).2.cell
    have f3 := (HR.out X b6X).2.frozen
    obtain ⟨q1, q2, q3, q4⟩ := fin4 (HR.out X b6X).1 (HR.out X b6X).2 (.int .i64 0) (.int .i64 0) (.int .i64 0) (.bool false)
    have hK' := (q4 0).same D _ (Nat.zero_le _) hK rfl
    have hb := q3 w.heap.size W6 (by omega) (b6X.mono (show w.heap.size ≤ W6.heap.size by omega))
    have HK := Lib.hid hK'
    have HBF := Lib.hid hb
    obtain ⟨d0, d1, d2, _, _, _⟩ := blkR q1
    have hput := fun v (p : Addr) h => cell_kept (a := p) (v := v) h (grownBy_putObj' _ D (.deferred none)) (fun r e => by cases e; exact ⟨_, hK', rfl⟩)
    have e0 := Lib.hid (hput _ _ d0); have e1 := Lib.hid (hput _ _ d1); have e2 := Lib.hid (hput _ _ d2); have e3 := Lib.hid (hput _ _ q2.cell)
    clear hp hbX b6X q1 q2 q3 q4 hK' hb d0 d1 d2 hput hK
    gi_wp2
    refine ⟨by simp, .inl ⟨_, _, rfl, run_takeDeferred HK.out, ?_⟩⟩
    have e0 := e0.out; have e1 := e1.out; have e2 := e2.out; have e3 := e3.out
    refine ⟨bestS none, by simp [results, Try.results27, go_sem, bestS, rlow, Rc.val, *], by rw [HE.out], ?_⟩
    exact HB6.out.trans (Below.mono (HBF.out.trans (belowK_b (w := w) (Nat.le_refl _) _ D _ _ (by omega) HK.out rfl rfl)) hWw)
  case stop =>
    rintro D c pre X hD hpre ⟨⟨rfl, z, r, rfl, hz, hr, hb4, hb5⟩, hB⟩ hK
    have HE := Lib.hid (show b = some r by
      rw [HF.out]
      obtain ⟨t, ht⟩ := hpre
      rw [← ht, List.append_assoc, List.find?_append, List.find?_eq_none.2 (fun s hs => by have := hz s hs; simp only [decide_eq_true_eq]; omega)]
      simp [hr])
    obtain ⟨d0, d1, d2, _, _, _⟩ := blkR hb4
    have hput := fun v (p : Addr) h => cell_kept (a := p) (v := v) h (grownBy_putObj' X D (.deferred none)) (fun r e => by cases e; exact ⟨_, hK, rfl⟩)
    have e0 := Lib.hid (hput _ _ d0); have e1 := Lib.hid (hput _ _ d1); have e2 := Lib.hid (hput _ _ d2); have e3 := Lib.hid (hput _ _ hb5.cell)
    have HK := Lib.hid hK
    have HBF := Lib.hid hB
    clear hput d0 d1 d2 hb4 hb5 hz hr hpre hB hK
    gi_wp2
    refine ⟨by simp, .inl ⟨_, _, rfl, run_takeDeferred HK.out, ?_⟩⟩
    have e0 := e0.out; have e1 := e1.out; have e2 := e2.out; have e3 := e3.out
    refine ⟨bestS (some r), by simp [results, Try.results27, go_sem, bestS, Rc.val, *], by rw [HE.out], ?_⟩
    exact HB6.out.trans (Below.mono (HBF.out.trans (belowK_b (w := w) (Nat.le_refl _) _ D _ _ (by omega) HK.out rfl rfl)) hWw)
end Go.Proofs.Ytofobkamnolddaa
