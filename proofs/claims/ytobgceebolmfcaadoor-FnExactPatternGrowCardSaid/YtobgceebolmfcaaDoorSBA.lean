/- The model's bounds: places. The model's bounds: the search. The model's bounds: a change along a path. The model's bounds: the greatest and the least number. -/
import Derived.Test.YtobgceebolmfcaaDoorBMA
import Derived.Test.YtobgceebolmfcaaDoorTS6
import Derived.Test.YtobgceebolmfcaaDoorTW
import Derived.StillTailTactics
import Derived.Deep.LoopGhost
namespace Go.Proofs.YtobgceebolmfcaaDoor
open Go.RowKit
theorem sCell_row (q k l to : Nat) (hk : k < q) (ht : to = q + l) (_hq : q ≤ 100) (hl : l ≤ 100) (w : World) : Calls Tryd.prog 99 #[.int .i64 q, .int .i64 k, .int .i64 to] w fun e w' => e = .returned (.tuple #[.int .i64 k, .int .i64 l]) ∧ w' = w := by
  have h1 : (k : Int) < (to : Int) := by omega
  have h2 : ¬ (to : Int) < (k : Int) := by omega
  have h3 : (to : Int) - (q : Int) = (l : Int) := by omega
  have h4 : (k : Int) ≤ (to : Int) := by omega
  go_enter Tryd.func99, Tryd.ntmps99
  clear ht
  go_wp2
  go_ret2
  exact ⟨rfl, rfl⟩
theorem sCell_col (q k l to : Nat) (hk : k < q) (ht : to = q + l) (_hq : q ≤ 100) (hl : l ≤ 100) (w : World) : Calls Tryd.prog 99 #[.int .i64 q, .int .i64 to, .int .i64 k] w fun e w' => e = .returned (.tuple #[.int .i64 k, .int .i64 l]) ∧ w' = w := by
  have h1 : (k : Int) < (to : Int) := by omega
  have h2 : ¬ (to : Int) < (k : Int) := by omega
  have h3 : (to : Int) - (q : Int) = (l : Int) := by omega
  have h4 : (k : Int) ≤ (to : Int) := by omega
  go_enter Tryd.func99, Tryd.ntmps99
  clear ht
  go_wp2
  go_ret2
  exact ⟨rfl, rfl⟩
theorem flag_at {w : World} {B : Nat} {A : Option Addr} {x : List Bool} (h : Row w B A (bcells x)) (k : Nat) (hk : k < x.length) : ∃ b o, A = some ⟨b, o, none⟩ ∧ b < B ∧ w.cell? ⟨b, o + k, none⟩ = some (.bool (x.getD k false)) := by
  have hg : (bcells x)[k]? = some (.bool (x.getD k false)) := by
    rw [bcells, List.getElem?_map, List.getElem?_eq_getElem hk, List.getD_eq_getElem?_getD, List.getElem?_eq_getElem hk]; rfl
  rcases h with h | ⟨b, o, hA, hb, hc⟩
  · rw [h] at hg; cases hg
  · exact ⟨b, o, hA, hb, hc k _ hg⟩
set_option maxHeartbeats 2000000 in
theorem sOpen_row (W : World) (t : Tb) (v : Value) (hv : IsR W v t) (m : Mk) (u : Value) (hu : IsM W u m) (q d : Nat) (hS : Shp t m q d) (k l to : Nat) (hk : k < q) (hl : l < d) (ht : to = q + l) (raise : Bool) (g : Bool) (hg : (hF m k l && (!raise || decide (0 < cF t k l))) = g)
    (w : World) (hb : Below W.heap.size W w) : Calls Tryd.prog 103 #[v, u, .int .i64 k, .int .i64 to, .bool raise] w (fun e w' => e = .returned (.bool g) ∧ w' = w) := by
  obtain ⟨A, c, hvv, a1, a2, a3⟩ := hv.below hb
  obtain ⟨Am, cm, huv, b1, b2, b3⟩ := hu.below hb
  have htl := hS.tl
  have hml := hS.ml
  have htr := hS.tr k hk
  have hmr := hS.mr k hk
  have h14 := hS.q4
  have h1d := hS.d4
  obtain ⟨bt, ot, A0, c0, hA, hbt, e0, x1, x2, x3⟩ := a3.at_ k (by omega)
  obtain ⟨bm, om, M0, d0, hM, hbm, f0, y1, y2, y3⟩ := b3.at_ k (by omega)
  obtain ⟨bt2, ot2, hA2, hbt2, e2⟩ := x3.int_ l (by omega)
  obtain ⟨bm2, om2, hM2, hbm2, f2⟩ := flag_at y3 l (by omega)
  subst hA hM hA2 hM2
  rw [htr] at e0 x1
  rw [hmr] at f0 y1
  rw [htl] at hvv a1
  rw [hml] at huv b1
  subst hvv huv
  obtain ⟨y, hy⟩ : ∃ y, cF t k l = y := ⟨_, rfl⟩
  obtain ⟨z, hz⟩ : ∃ z, hF m k l = z := ⟨_, rfl⟩
  have e3 : w.cell? ⟨bt2, ot2 + l, none⟩ = some (.int .i64 y) := by rw [← hy]; exact e2
  have f3 : w.cell? ⟨bm2, om2 + l, none⟩ = some (.bool z) := by rw [← hz]; exact f2
  rw [hy, hz] at hg
  have HG := Lib.hid hg
  have HT := Lib.hid ht
  have hkq : (k : Int) < (q : Int) := by omega
  have htq : ¬ (to : Int) < (q : Int) := by omega
  have hld : (l : Int) < (d : Int) := by omega
  have hq9 : q ≤ 100 := by omega
  have hl9 : l ≤ 100 := by omega
  clear hg ht htl hml htr hmr hS hv hu hb e2 f2 x3 y3 a3 b3 hy hz
  go_enter Tryd.func103, Tryd.ntmps103
  go_wp2_with fail
  refine (sCell_row q k l to hk HT.out hq9 hl9 w).mono ?_
  rintro e w' ⟨rfl, rfl⟩
  cases raise
  all_goals
    cases z
    · go_wp2
      go_ret
      exact ⟨by rw [← HG.out]; rfl, rfl⟩
    · by_cases hp : 0 < y
      · have hpb : decide (0 < y) = true := decide_eq_true hp
        go_wp2
        go_ret
        exact ⟨by rw [← HG.out]; first | (simp; done) | (simp; omega) | (simp [hp]; done), rfl⟩
      · have hpb : decide (0 < y) = false := decide_eq_false hp
        go_wp2
        go_ret
        exact ⟨by rw [← HG.out]; first | (simp; done) | (simp; omega) | (simp [hp]; done), rfl⟩
set_option maxHeartbeats 2000000 in
theorem sOpen_col (W : World) (t : Tb) (v : Value) (hv : IsR W v t) (m : Mk) (u : Value) (hu : IsM W u m) (q d : Nat) (hS : Shp t m q d) (k l to : Nat) (hk : k < q) (hl : l < d) (ht : to = q + l) (raise : Bool) (g : Bool) (hg : (hF m k l && (raise || decide (0 < cF t k l))) = g)
    (w : World) (hb : Below W.heap.size W w) : Calls Tryd.prog 103 #[v, u, .int .i64 to, .int .i64 k, .bool raise] w (fun e w' => e = .returned (.bool g) ∧ w' = w) := by
  obtain ⟨A, c, hvv, a1, a2, a3⟩ := hv.below hb
  obtain ⟨Am, cm, huv, b1, b2, b3⟩ := hu.below hb
  have htl := hS.tl
  have hml := hS.ml
  have htr := hS.tr k hk
  have hmr := hS.mr k hk
  have h14 := hS.q4
  have h1d := hS.d4
  obtain ⟨bt, ot, A0, c0, hA, hbt, e0, x1, x2, x3⟩ := a3.at_ k (by omega)
  obtain ⟨bm, om, M0, d0, hM, hbm, f0, y1, y2, y3⟩ := b3.at_ k (by omega)
  obtain ⟨bt2, ot2, hA2, hbt2, e2⟩ := x3.int_ l (by omega)
  obtain ⟨bm2, om2, hM2, hbm2, f2⟩ := flag_at y3 l (by omega)
  subst hA hM hA2 hM2
  rw [htr] at e0 x1
  rw [hmr] at f0 y1
  rw [htl] at hvv a1
  rw [hml] at huv b1
  subst hvv huv
  obtain ⟨y, hy⟩ : ∃ y, cF t k l = y := ⟨_, rfl⟩
  obtain ⟨z, hz⟩ : ∃ z, hF m k l = z := ⟨_, rfl⟩
  have e3 : w.cell? ⟨bt2, ot2 + l, none⟩ = some (.int .i64 y) := by rw [← hy]; exact e2
  have f3 : w.cell? ⟨bm2, om2 + l, none⟩ = some (.bool z) := by rw [← hz]; exact f2
  rw [hy, hz] at hg
  have HG := Lib.hid hg
  have HT := Lib.hid ht
  have hkq : (k : Int) < (q : Int) := by omega
  have htq : ¬ (to : Int) < (q : Int) := by omega
  have hld : (l : Int) < (d : Int) := by omega
  have hq9 : q ≤ 100 := by omega
  have hl9 : l ≤ 100 := by omega
  clear hg ht htl hml htr hmr hS hv hu hb e2 f2 x3 y3 a3 b3 hy hz
  go_enter Tryd.func103, Tryd.ntmps103
  go_wp2_with fail
  refine (sCell_col q k l to hk HT.out hq9 hl9 w).mono ?_
  rintro e w' ⟨rfl, rfl⟩
  cases raise
  all_goals
    cases z
    · go_wp2
      go_ret
      exact ⟨by rw [← HG.out]; rfl, rfl⟩
    · by_cases hp : 0 < y
      · have hpb : decide (0 < y) = true := decide_eq_true hp
        go_wp2
        go_ret
        exact ⟨by rw [← HG.out]; first | (simp; done) | (simp; omega) | (simp [hp]; done), rfl⟩
      · have hpb : decide (0 < y) = false := decide_eq_false hp
        go_wp2
        go_ret
        exact ⟨by rw [← HG.out]; first | (simp; done) | (simp; omega) | (simp [hp]; done), rfl⟩
end Go.Proofs.YtobgceebolmfcaaDoor
namespace Go.Proofs.YtobgceebolmfcaaDoor
open Go.RowKit
set_option maxHeartbeats 1000000 in
theorem sOpen_any (W : World) (t : Tb) (v : Value) (hv : IsR W v t) (m : Mk) (u : Value) (hu : IsM W u m) (q d : Nat) (hS : Shp t m q d) (p to : Nat) (hp : p < q + d) (ht : to < q + d) (raise : Bool) (g : Bool) (hg : pthOk q (hF m) (cF t) raise p to = g)
    (w : World) (hb : Below W.heap.size W w) : Calls Tryd.prog 103 #[v, u, .int .i64 p, .int .i64 to, .bool raise] w (fun e w' => e = .returned (.bool g) ∧ w' = w) := by
  by_cases a : p < q
  · by_cases b : to < q
    · rw [pth_rows a b] at hg
      subst hg
      obtain ⟨A, c, rfl, _, _, _⟩ := hv
      have htl := hS.tl
      have h1 : (p : Int) < (q : Int) := by omega
      have h2 : (to : Int) < (q : Int) := by omega
      rw [htl]
      clear htl hS hu hb
      go_enter Tryd.func103, Tryd.ntmps103
      go_wp2
      go_ret
      exact ⟨rfl, rfl⟩
    · rw [pth_row a (show to = q + (to - q) by omega)] at hg
      exact sOpen_row W t v hv m u hu q d hS p (to - q) to a (by omega) (by omega) raise g hg w hb
  · by_cases b : to < q
    · rw [pth_col b (show p = q + (p - q) by omega)] at hg
      exact sOpen_col W t v hv m u hu q d hS to (p - q) p b (by omega) (by omega) raise g hg w hb
    · rw [pth_cols a b] at hg
      subst hg
      obtain ⟨A, c, rfl, _, _, _⟩ := hv
      have htl := hS.tl
      have h1 : ¬ (p : Int) < (q : Int) := by omega
      have h2 : ¬ (to : Int) < (q : Int) := by omega
      rw [htl]
      clear htl hS hu hb
      go_enter Tryd.func103, Tryd.ntmps103
      go_wp2
      go_ret
      exact ⟨rfl, rfl⟩
/-- Places as numbers. -/
def wI (l : List Nat) : List Int := l.map fun p : Nat => (p : Int)
theorem wI_len (l : List Nat) : (wI l).length = l.length := List.length_map ..
theorem wI_at {l : List Nat} {k : Nat} (hk : k < l.length) : (icells (wI l))[k]? = some (.int .i64 ((l.getD k 0 : Nat) : Int)) := by
  rw [icells, wI, List.getElem?_map, List.getElem?_map, List.getElem?_eq_getElem hk, getD_of _ _ hk]; rfl
theorem wI_snoc (l : List Nat) (p : Nat) : wI (l ++ [p]) = wI l ++ [(p : Int)] := by simp [wI]
/-- What the search has in memory: parents at g, work at wv. -/
structure Sea (w0 w : World) (g n c : Nat) (wv : Value) (par : List Int) (work : List Nat) : Prop where
  pa : Own1 TN w w0.heap.size (.slice (some ⟨g, 0, none⟩) n c) (icells par)
  wo : Own1 TN w w0.heap.size wv (icells (wI work))
  ap : ∀ k, wv.ownBlock = some k → k ≠ g
  lo : Below w0.heap.size w0 w
theorem Sea.put {w0 w w' : World} {g n c : Nat} {wv wv' : Value} {par : List Int} {work : List Nat} {to : Nat} {x : Int} (h : Sea w0 w g n c wv par work)
    (ho : Own1 TN w' w0.heap.size wv' (icells (wI work) ++ [.int .i64 to])) (hg : ((w.setCell ⟨g, to, none⟩ (.int .i64 x)).alloc (.cells #[.int .i64 to] TN)).grownBy w' wv.ownBlock)
    (hx : wv'.ownBlock = wv.ownBlock ∨ wv'.ownBlock = some ((w.setCell ⟨g, to, none⟩ (.int .i64 x)).alloc (.cells #[.int .i64 to] TN)).heap.size) : Sea w0 w' g n c wv' (par.set to x) (work ++ [to]) := by
  have hg0 := h.pa.ob g rfl
  have h1 : Own1 TN (w.setCell ⟨g, to, none⟩ (.int .i64 x)) w0.heap.size (.slice (some ⟨g, 0, none⟩) n c) (icells (par.set to x)) := by
    have h2 := h.pa.setAt to (.int .i64 x)
    rw [show (icells par).set to (.int .i64 x) = icells (par.set to x) by simp [icells, List.map_set]] at h2
    exact h2
  have hb : Below w0.heap.size w0 ((w.setCell ⟨g, to, none⟩ (.int .i64 x)).alloc (.cells #[.int .i64 to] TN)) := (h.lo.setCell (p := ⟨g, to, none⟩) hg0.1 _).alloc (by rw [World.size_setCell]; exact h.lo.size) _
  refine ⟨(h1.alloc _).kept hg fun k e e2 => ?_, ?_, fun k e e2 => ?_, hb.grown hg hb.size fun k e => (h.wo.ob k e).1⟩
  · have e3 : some g = some k := e
    injection e3 with e3
    exact h.ap k e2.symm e3.symm
  · rw [wI_snoc, icells_app]; exact ho
  · subst e2
    rcases hx with hx | hx
    · rw [hx] at e; exact h.ap k e rfl
    · rw [hx] at e
      injection e with e
      simp at e; omega
theorem getD_snoc {l : List Nat} {a x : Nat} (h : a < l.length) : (l ++ [x]).getD a 0 = l.getD a 0 := by
  rw [List.getD_eq_getElem?_getD, List.getElem?_append_left h, ← List.getD_eq_getElem?_getD]
theorem put_keep {many : Nat} {op : Nat → Nat → Bool} {i to p : Nat} {par : List Int} {work work' : List Nat} {ord ord' : Nat → Nat} (b' : Bfs many op i (par.set to (p : Int)) work' ord') (_b : Bfs many op i par work ord) {s : Nat} (hs : s < many) (h : 0 ≤ par.getD s (-1)) : 0 ≤ (par.set to (p : Int)).getD s (-1) := by
  by_cases e : to = s
  · subst e
    rw [getD_set_eq (by have := b'.plen; rw [List.length_set] at this; omega)]; omega
  · rw [getD_set_ne' e]; exact h
/-- The search's answer. -/
def OutPath (q d : Nat) (h : Nat → Nat → Bool) (x : Tf) (raise : Bool) (i j : Nat) (w : World) (e : Ending) (w' : World) : Prop :=
  ∃ g c par work ord, e = .returned (.slice (some ⟨g, 0, none⟩) (q + d) c) ∧ Own1 TN w' w.heap.size (.slice (some ⟨g, 0, none⟩) (q + d) c) (icells par) ∧ Bfs (q + d) (pthTo q h x raise i j) i par work ord ∧ Closed (q + d) (pthTo q h x raise i j) par ∧ Below w.heap.size w w'
set_option maxRecDepth 100000 in
set_option maxHeartbeats 4000000 in
theorem sPath_is (W : World) (t : Tb) (v : Value) (hv : IsR W v t) (m : Mk) (u : Value) (hu : IsM W u m) (q d : Nat) (hS : Shp t m q d) (i j : Nat) (hi : i < q) (hj : j < d) (raise : Bool) (w : World) (hb : Below W.heap.size W w) :
    Calls Tryd.prog 98 #[v, u, .int .i64 i, .int .i64 j, .bool raise] w (OutPath q d (hF m) (cF t) raise i j w) := by
  have HV := Lib.hid hv
  have HU := Lib.hid hu
  have HSH := Lib.hid hS
  have HB := Lib.hid hb
  obtain ⟨A, c, hvv, a1, a2, a3⟩ := hv.below hb
  have htl := hS.tl
  have h14 := hS.q4
  have h11 := hS.q1
  have hd4 := hS.d4
  obtain ⟨bt, ot, A0, c0, hA, hbt, e0, x1, x2, x3⟩ := a3.at_ 0 (by omega)
  subst hA
  rw [hS.tr 0 (by omega)] at e0
  have e0' : w.cell? ⟨bt, ot, none⟩ = some (.slice A0 d c0) := e0
  clear e0
  rw [htl] at hvv a1
  subst hvv
  obtain ⟨n, hn⟩ : ∃ n, n = q + d := ⟨_, rfl⟩
  have HN := Lib.hid hn
  have hni : (q : Int) + (d : Int) = (n : Int) := by omega
  have hq0 : (0 : Int) < (q : Int) := by omega
  have hqn : 0 < q := by omega
  have hin : i < n := by omega
  have hini : (i : Int) < (n : Int) := by omega
  have hn8 : n ≤ 8 := by omega
  obtain ⟨op, hop⟩ : ∃ op, pthTo q (hF m) (cF t) raise i j = op := ⟨_, rfl⟩
  have HOP := Lib.hid hop
  clear a1 a2 a3 x1 x2 x3 hS hb hu hv htl hn hop
  go_enter Tryd.func98, Tryd.ntmps98
  go_wp2
  go_loopw [12, 13] (fun v i wr => ∃ k : Nat, k ≤ n ∧ i = .int .i64 k ∧ Own1 TN wr w.heap.size v (icells (List.replicate k (-1))) ∧ Below w.heap.size w wr) (fun _ i _ => n - (intOf i).toNat)
  case atStart => exact ⟨0, Nat.zero_le _, rfl, own1_new (Nat.le_refl _), (Below.refl _ _).alloc (Nat.le_refl _) _⟩
  case round =>
    obtain ⟨k, hk, rfl, ho, hb1⟩ := hrel
    have HO := Lib.hid ho
    have HB1 := Lib.hid hb1
    clear ho hb1 e0'
    by_cases hlt : k < n
    · have hki : (k : Int) < (n : Int) := by omega
      have HL := Lib.hid (show (icells (List.replicate k (-1))).length + [Value.int .i64 (-1)].length ≤ 1000000 by rw [icells_len, List.length_replicate]; simp; omega)
      go_wp2_with (first
        | (at_builtin
           refine app1 one_I rfl (.tmp 31) (.tmp 32) rfl w.heap.size _ _ rfl (HO.out.alloc _) (wr.heap.size + 1) (some ⟨wr.heap.size, 0, none⟩) 1 1 [.int .i64 (-1)] rfl rfl (row_lit wr #[.int .i64 (-1)] TN) (icells_one [-1]) HL.out (by have := HB1.out.size; simp; omega) ?_
           intro v7 w7 ho7 hg7 hx7
           clear hx7
           have HO7 := Lib.hid (show Own1 TN w7 w.heap.size v7 (icells (List.replicate (k + 1) (-1))) by rw [List.replicate_succ', icells_app]; exact ho7)
           have HB7 := Lib.hid (below_own1 (HB1.out.alloc HB1.out.size _) (HO.out.alloc _) hg7)
           clear ho7 hg7))
      go_roundw
      case rel => exact ⟨k + 1, by omega, by go_num, HO7.out, HB7.out⟩
      case measure => simp [intOf]; omega
    · have hki : ¬ (k : Int) < (n : Int) := by omega
      have hkn : k = n := by omega
      subst hkn
      have h0 := HO.out
      obtain ⟨g, cg, hvg⟩ := h0.slice (by rw [icells_len, List.length_replicate]; omega)
      rw [icells_len, List.length_replicate] at hvg
      subst hvg
      obtain ⟨k1, kf1⟩ := h0.cellAt i (by rw [icells_len, List.length_replicate]; exact hin)
      have e1 : wr.cell? ⟨g, i, none⟩ = some (.int .i64 (-1)) := by rw [k1, icells, List.getElem?_map, List.getElem?_replicate, if_pos hin]; rfl
      have hgb := h0.ob g rfl
      have HS0 := Lib.hid (show Sea w ((wr.setCell ⟨g, i, none⟩ (.int .i64 i)).alloc (.cells #[.int .i64 i] TN)) g k cg (.slice (some ⟨wr.heap.size, 0, none⟩) 1 1) ((List.replicate k (-1)).set i (i : Int)) [i] from by
        have h2 := h0.setAt i (.int .i64 i)
        rw [show (icells (List.replicate k (-1))).set i (.int .i64 i) = icells ((List.replicate k (-1)).set i (i : Int)) by simp [icells, List.map_set]] at h2
        have hbs : Below w.heap.size w (wr.setCell ⟨g, i, none⟩ (.int .i64 i)) := HB1.out.setCell (p := ⟨g, i, none⟩) hgb.1 _
        have h3 := own1_lit (T := TN) (w := wr.setCell ⟨g, i, none⟩ (.int .i64 i)) #[.int .i64 i] hbs.size (by simp)
        refine ⟨h2.alloc _, ?_, fun a e => ?_, hbs.alloc hbs.size _⟩
        · rw [World.size_setCell] at h3; exact h3
        · have e2 : some wr.heap.size = some a := e
          injection e2 with e2; omega)
      have HBF := Lib.hid (bfs_start (op := op) hin)
      clear k1 h0 HO hki hlt hk hgb
      go_wp2
      go_loopw [14, 15] (fun wv a wr => ∃ (at' : Nat) (par : List Int) (work : List Nat) (ord : Nat → Nat), a = .int .i64 at' ∧ at' ≤ work.length ∧ Bfs k op i par work ord ∧ (∀ b, b < at' → ∀ to, to < k → op (work.getD b 0) to = true → 0 ≤ par.getD to (-1)) ∧ Sea w wr g k cg wv par work) (fun _ a _ => k - (intOf a).toNat)
      case atStart => exact ⟨0, _, [i], _, rfl, Nat.zero_le _, HBF.out, fun b hb => by omega, HS0.out⟩
      case round =>
        obtain ⟨a, par, work, ord, rfl, hal, b, hdn, hs⟩ := hrel
        have HS := Lib.hid hs
        have HBF := Lib.hid b
        have HD := Lib.hid hdn
        have hle := b.le
        obtain ⟨g2, c2, hwv⟩ := hs.wo.slice (by rw [icells_len, wI_len]; exact List.length_pos_of_mem b.w0)
        rw [icells_len, wI_len] at hwv
        subst hwv
        obtain ⟨lw, hlw⟩ : ∃ lw, work.length = lw := ⟨_, rfl⟩
        have HLW := Lib.hid hlw
        rw [hlw] at hal hle HS ⊢
        clear hs b hdn hlw
        by_cases hlt : a < lw
        · have hai : (a : Int) < (lw : Int) := by omega
          obtain ⟨p, hp⟩ : ∃ p, work.getD a 0 = p := ⟨_, rfl⟩
          have HP := Lib.hid hp
          have hpn : p < k := by rw [← hp]; exact HBF.out.wlt _ (by rw [getD_of _ _ (by rw [HLW.out]; exact hlt)]; exact List.getElem_mem _)
          clear hp
          go_wp2
          go_loopw [14, 16] (fun wv x wr' => ∃ (to : Nat) (par : List Int) (work : List Nat) (ord : Nat → Nat), x = .int .i64 to ∧ to ≤ k ∧ a < work.length ∧ work.getD a 0 = p ∧ Bfs k op i par work ord ∧ (∀ b, b < a → ∀ to, to < k → op (work.getD b 0) to = true → 0 ≤ par.getD to (-1)) ∧ (∀ b, b < to → op p b = true → 0 ≤ par.getD b (-1)) ∧ Sea w wr' g k cg wv par work) (fun _ x _ => k - (intOf x).toNat)
          case atStart => exact ⟨0, par, work, ord, rfl, Nat.zero_le _, by rw [HLW.out]; exact hlt, HP.out, HBF.out, HD.out, fun b hb => by omega, HS.out⟩
          case round =>
            clear HS HBF HD HP HLW HS0
            obtain ⟨to, par, work, ord, rfl, hto, haw, hpa, b, hdn, hdt, hs⟩ := hrel
            have HS := Lib.hid hs
            have HBF := Lib.hid b
            have HD := Lib.hid hdn
            have HDT := Lib.hid hdt
            have HAW := Lib.hid haw
            have HPA := Lib.hid hpa
            by_cases hlt2 : to < k
            · have hti : (to : Int) < (k : Int) := by omega
              obtain ⟨g2, c2, hwv⟩ := hs.wo.slice (by rw [icells_len, wI_len]; exact List.length_pos_of_mem b.w0)
              rw [icells_len, wI_len] at hwv
              subst hwv
              obtain ⟨k1, kf⟩ := hs.pa.cellAt to (by rw [icells_len, b.plen]; exact hlt2)
              have e1 : wr.cell? ⟨g, to, none⟩ = some (.int .i64 (par.getD to (-1))) := by
                have hl : to < par.length := by rw [b.plen]; exact hlt2
                rw [k1, icells, List.getElem?_map, List.getElem?_eq_getElem hl, getD_of _ _ hl]; rfl
              have e2 : wr.cell? ⟨g2, a, none⟩ = some (.int .i64 p) := by
                rw [(hs.wo.cellAt a (by rw [icells_len, wI_len]; exact haw)).1, wI_at haw, hpa]
              obtain ⟨y, hy⟩ : ∃ y, par.getD to (-1) = y := ⟨_, rfl⟩
              rw [hy] at e1
              have HY := Lib.hid hy
              obtain ⟨lw, hlw⟩ : ∃ lw, work.length = lw := ⟨_, rfl⟩
              have hawi : (a : Int) < (lw : Int) := by omega
              have hawn : a < lw := by omega
              rw [hlw] at HS ⊢
              have hgne : g2 ≠ g := hs.ap g2 rfl
              clear hs b hdn hdt haw hpa hy hlw k1
              by_cases hpi : p = i
              · have hpb : ((p : Int) == (i : Int)) = true := by simp [hpi]
                have HPI := Lib.hid (show decide (p = i) = true from decide_eq_true hpi)
                by_cases htq : to = q + j
                · have htb : ((to : Int) == (q : Int) + (j : Int)) = true := by rw [htq]; simp
                  have HTQ := Lib.hid (show decide (to = q + j) = true from decide_eq_true htq)
                  clear hpi htq
                  by_cases hy0 : y < 0
                  · have hyb : decide (y < 0) = true := decide_eq_true hy0
                    have HNX := Lib.hid (show op p to = true → 0 ≤ par.getD to (-1) from fun ho => by rw [← HOP.out, pthTo, HPI.out, HTQ.out] at ho; simp at ho)
                    go_wp2
                    go_roundw
                    case rel => exact ⟨to + 1, par, work, ord, by go_num, by omega, HAW.out, HPA.out, HBF.out, HD.out, fun r hr ho => by
                      by_cases e : r = to
                      · subst e; exact HNX.out ho
                      · exact HDT.out r (by omega) ho, HS.out⟩
                    case measure => simp [intOf]; omega
                  · have hyb : decide (y < 0) = false := decide_eq_false hy0
                    have HNX := Lib.hid (show op p to = true → 0 ≤ par.getD to (-1) from fun _ => by rw [HY.out]; omega)
                    go_wp2
                    go_roundw
                    case rel => exact ⟨to + 1, par, work, ord, by go_num, by omega, HAW.out, HPA.out, HBF.out, HD.out, fun r hr ho => by
                      by_cases e : r = to
                      · subst e; exact HNX.out ho
                      · exact HDT.out r (by omega) ho, HS.out⟩
                    case measure => simp [intOf]; omega
                · have htb : ((to : Int) == (q : Int) + (j : Int)) = false := by rw [beq_eq_false_iff_ne]; omega
                  have HTQ := Lib.hid (show decide (to = q + j) = false from decide_eq_false htq)
                  clear hpi htq
                  by_cases hy0 : y < 0
                  · obtain ⟨gg, hgg⟩ : ∃ gg, pthOk q (hF m) (cF t) raise p to = gg := ⟨_, rfl⟩
                    have HGG := Lib.hid hgg
                    clear hgg
                    go_wp2_with fail
                    refine (sOpen_any wr t _ (HV.out.below (HB.out.trans (HS.out.lo.mono HB.out.size))) m _ (HU.out.below (HB.out.trans (HS.out.lo.mono HB.out.size))) q d HSH.out p to (by rw [← HN.out]; exact hpn) (by rw [← HN.out]; exact hlt2) raise gg HGG.out wr (Below.refl _ _)).mono ?_
                    rintro e w9 ⟨rfl, rfl⟩
                    cases gg
                    · skip
                      have HNX := Lib.hid (show op p to = true → 0 ≤ par.getD to (-1) from fun ho => by rw [← HOP.out, pthTo, HGG.out] at ho; simp at ho)
                      go_wp2
                      go_roundw
                      case rel => exact ⟨to + 1, par, work, ord, by go_num, by omega, HAW.out, HPA.out, HBF.out, HD.out, fun r hr ho => by
                        by_cases e : r = to
                        · subst e; exact HNX.out ho
                        · exact HDT.out r (by omega) ho, HS.out⟩
                      case measure => simp [intOf]; omega
                    · skip
                      have HOQ := Lib.hid (show op p to = true by rw [← HOP.out, pthTo, HGG.out, Bool.true_and]; exact (by rw [HPI.out, HTQ.out]; rfl))
                      have HY0 := Lib.hid (show par.getD to (-1) < 0 by rw [HY.out]; exact hy0)
                      have HB5 := Lib.hid (HBF.out.step (by rw [← HPA.out, getD_of _ _ HAW.out]; exact List.getElem_mem _) hlt2 HY0.out HOQ.out)
                      have hgb := HS.out.pa.ob g rfl
                      have HW5 := Lib.hid (show Own1 TN (w9.setCell ⟨g, to, none⟩ (.int .i64 p)) w.heap.size (.slice (some ⟨g2, 0, none⟩) lw c2) (icells (wI work)) from HS.out.wo.same fun a5 e5 => Below.heap_setCell w9 ⟨g, to, none⟩ _ a5 (HS.out.ap a5 e5))
                      have HSZ := Lib.hid (show w.heap.size ≤ w9.heap.size from HS.out.lo.size)
                      have HL5 := Lib.hid (show (icells (wI work)).length + [Value.int .i64 (to : Int)].length ≤ 1000000 by rw [icells_len, wI_len]; have := HBF.out.le; simp; omega)
                      go_wp2_with (first
                        | (at_builtin
                           refine app1 one_I rfl (.tmp 92) (.tmp 94) rfl w.heap.size _ _ rfl (HW5.out.alloc _) (w9.heap.size + 1) (some ⟨w9.heap.size, 0, none⟩) 1 1 [.int .i64 to] rfl rfl (by have h := row_lit (w9.setCell ⟨g, to, none⟩ (.int .i64 p)) #[.int .i64 to] TN; rw [World.size_setCell] at h; exact h) (icells_one [(to : Int)]) HL5.out (by have := HSZ.out; simp; omega) ?_
                           intro v7 w7 ho7 hg7 hx7
                           have HS7 := Lib.hid (HS.out.put ho7 hg7 hx7)
                           clear ho7 hg7 hx7))
                      go_roundw
                      case rel => exact ⟨to + 1, _, _, _, by go_num, by omega, by rw [List.length_append]; have := HAW.out; omega, by rw [getD_snoc HAW.out]; exact HPA.out, HB5.out, fun r hr s hs ho => by
                        rw [getD_snoc (by have := HAW.out; omega)] at ho
                        exact put_keep HB5.out HBF.out hs (HD.out r hr s hs ho), fun r hr ho => by
                        by_cases e : r = to
                        · subst e; rw [getD_set_eq (by rw [HBF.out.plen]; exact hlt2)]; omega
                        · exact put_keep HB5.out HBF.out (by omega) (HDT.out r (by omega) ho), HS7.out⟩
                      case measure => simp [intOf]; omega
                  · have hyb : decide (y < 0) = false := decide_eq_false hy0
                    have HNX := Lib.hid (show op p to = true → 0 ≤ par.getD to (-1) from fun _ => by rw [HY.out]; omega)
                    go_wp2
                    go_roundw
                    case rel => exact ⟨to + 1, par, work, ord, by go_num, by omega, HAW.out, HPA.out, HBF.out, HD.out, fun r hr ho => by
                      by_cases e : r = to
                      · subst e; exact HNX.out ho
                      · exact HDT.out r (by omega) ho, HS.out⟩
                    case measure => simp [intOf]; omega
              · have hpb : ((p : Int) == (i : Int)) = false := by rw [beq_eq_false_iff_ne]; omega
                have HPI := Lib.hid (show decide (p = i) = false from decide_eq_false hpi)
                clear hpi
                by_cases hy0 : y < 0
                · obtain ⟨gg, hgg⟩ : ∃ gg, pthOk q (hF m) (cF t) raise p to = gg := ⟨_, rfl⟩
                  have HGG := Lib.hid hgg
                  clear hgg
                  go_wp2_with fail
                  refine (sOpen_any wr t _ (HV.out.below (HB.out.trans (HS.out.lo.mono HB.out.size))) m _ (HU.out.below (HB.out.trans (HS.out.lo.mono HB.out.size))) q d HSH.out p to (by rw [← HN.out]; exact hpn) (by rw [← HN.out]; exact hlt2) raise gg HGG.out wr (Below.refl _ _)).mono ?_
                  rintro e w9 ⟨rfl, rfl⟩
                  cases gg
                  · skip
                    have HNX := Lib.hid (show op p to = true → 0 ≤ par.getD to (-1) from fun ho => by rw [← HOP.out, pthTo, HGG.out] at ho; simp at ho)
                    go_wp2
                    go_roundw
                    case rel => exact ⟨to + 1, par, work, ord, by go_num, by omega, HAW.out, HPA.out, HBF.out, HD.out, fun r hr ho => by
                      by_cases e : r = to
                      · subst e; exact HNX.out ho
                      · exact HDT.out r (by omega) ho, HS.out⟩
                    case measure => simp [intOf]; omega
                  · skip
                    have HOQ := Lib.hid (show op p to = true by rw [← HOP.out, pthTo, HGG.out, Bool.true_and]; exact (by rw [HPI.out]; rfl))
                    have HY0 := Lib.hid (show par.getD to (-1) < 0 by rw [HY.out]; exact hy0)
                    have HB5 := Lib.hid (HBF.out.step (by rw [← HPA.out, getD_of _ _ HAW.out]; exact List.getElem_mem _) hlt2 HY0.out HOQ.out)
                    have hgb := HS.out.pa.ob g rfl
                    have HW5 := Lib.hid (show Own1 TN (w9.setCell ⟨g, to, none⟩ (.int .i64 p)) w.heap.size (.slice (some ⟨g2, 0, none⟩) lw c2) (icells (wI work)) from HS.out.wo.same fun a5 e5 => Below.heap_setCell w9 ⟨g, to, none⟩ _ a5 (HS.out.ap a5 e5))
                    have HSZ := Lib.hid (show w.heap.size ≤ w9.heap.size from HS.out.lo.size)
                    have HL5 := Lib.hid (show (icells (wI work)).length + [Value.int .i64 (to : Int)].length ≤ 1000000 by rw [icells_len, wI_len]; have := HBF.out.le; simp; omega)
                    go_wp2_with (first
                      | (at_builtin
                         refine app1 one_I rfl (.tmp 92) (.tmp 94) rfl w.heap.size _ _ rfl (HW5.out.alloc _) (w9.heap.size + 1) (some ⟨w9.heap.size, 0, none⟩) 1 1 [.int .i64 to] rfl rfl (by have h := row_lit (w9.setCell ⟨g, to, none⟩ (.int .i64 p)) #[.int .i64 to] TN; rw [World.size_setCell] at h; exact h) (icells_one [(to : Int)]) HL5.out (by have := HSZ.out; simp; omega) ?_
                         intro v7 w7 ho7 hg7 hx7
                         have HS7 := Lib.hid (HS.out.put ho7 hg7 hx7)
                         clear ho7 hg7 hx7))
                    go_roundw
                    case rel => exact ⟨to + 1, _, _, _, by go_num, by omega, by rw [List.length_append]; have := HAW.out; omega, by rw [getD_snoc HAW.out]; exact HPA.out, HB5.out, fun r hr s hs ho => by
                      rw [getD_snoc (by have := HAW.out; omega)] at ho
                      exact put_keep HB5.out HBF.out hs (HD.out r hr s hs ho), fun r hr ho => by
                      by_cases e : r = to
                      · subst e; rw [getD_set_eq (by rw [HBF.out.plen]; exact hlt2)]; omega
                      · exact put_keep HB5.out HBF.out (by omega) (HDT.out r (by omega) ho), HS7.out⟩
                    case measure => simp [intOf]; omega
                · have hyb : decide (y < 0) = false := decide_eq_false hy0
                  have HNX := Lib.hid (show op p to = true → 0 ≤ par.getD to (-1) from fun _ => by rw [HY.out]; omega)
                  go_wp2
                  go_roundw
                  case rel => exact ⟨to + 1, par, work, ord, by go_num, by omega, HAW.out, HPA.out, HBF.out, HD.out, fun r hr ho => by
                    by_cases e : r = to
                    · subst e; exact HNX.out ho
                    · exact HDT.out r (by omega) ho, HS.out⟩
                  case measure => simp [intOf]; omega
            · have hti : ¬ (to : Int) < (k : Int) := by omega
              have hle2 := b.le
              clear hs b hdn hdt hpa
              go_wp2
              go_roundw
              case rel => exact ⟨a + 1, par, work, ord, by go_num, HAW.out, HBF.out, fun r hr s hs ho => by
                by_cases e : r = a
                · subst e; rw [HPA.out] at ho; exact HDT.out s (by omega) ho
                · exact HD.out r (by omega) s hs ho, HS.out⟩
              case measure => simp [intOf]; omega
        · have hai : ¬ (a : Int) < (lw : Int) := by omega
          clear HS0
          go_wp2
          go_ret
          have hn := HN.out
          have hop := HOP.out
          have hbf := HBF.out
          have hs := HS.out
          subst hn hop
          refine ⟨g, cg, par, work, ord, rfl, hs.pa, hbf, fun p to hp ht h0 ho => ?_, hs.lo⟩
          obtain ⟨x, hx, e⟩ := List.getElem_of_mem (hbf.mem p hp h0)
          exact HD.out x (by rw [HLW.out] at hx; omega) to ht (by rw [getD_of _ _ hx, e]; exact ho)
end Go.Proofs.YtobgceebolmfcaaDoor
namespace Go.Proofs.YtobgceebolmfcaaDoor
open Go.RowKit
theorem mid_bd {q d : Nat} {h : Nat → Nat → Bool} {x y : Tf} {i j : Nat} {raise : Bool} {ord : Nat → Nat} {p : Nat} (m : Mid q d h x i j (stp raise) ord p y) (hR : ∀ k, k < q → sm d (x k) ≤ 396) {k l : Nat} (hk : k < q) (hl : l < d) : 0 ≤ y k l ∧ y k l ≤ 398 := by
  refine ⟨m.pos k l hk hl, ?_⟩
  have h1 := cell_row m.pos hk hl
  have h2 := m.row k hk
  have h3 := hR k hk
  have h4 : stp raise = 1 ∨ stp raise = -1 := by unfold stp; split <;> omega
  split at h2 <;> split at h2 <;> omega
theorem Mine.put {w : World} {B T : Nat} {v : Value} {t : Tb} {gi j i : Nat} {x : Int} (h : ∀ x : Int, Mine (w.setCell ⟨gi, j, none⟩ (.int .i64 x)) B T v (t.set i ((t.getD i []).set j x))) : Mine ((w.drew).setCell ⟨gi, j, none⟩ (.int .i64 x)) B T v (t.set i ((t.getD i []).set j x)) := h x
/-- What a change leaves. -/
def OutChg (W : World) (B T : Nat) (v : Value) (t : Tb) (m : Mk) (q d i j : Nat) (raise : Bool) (e : Ending) (w' : World) : Prop :=
  ∃ r t', e = .returned (.bool r) ∧ InR w' B T v t' ∧ Shp t' m q d ∧ Below W.heap.size W w' ∧
    ((r = false ∧ t' = t ∧ ∃ par : List Int, Closed (q + d) (pthTo q (hF m) (cF t) raise i j) par ∧ 0 ≤ par.getD i (-1) ∧ par.getD (q + j) (-1) < 0) ∨
      (r = true ∧ FitF q d (hF m) (cF t) (cF t') ∧ cF t' i j = cF t i j + stp raise))
set_option maxRecDepth 100000 in
set_option maxHeartbeats 4000000 in
theorem sChange_is (W : World) (t : Tb) (v : Value) (m : Mk) (u : Value) (hu : IsM W u m) (q d : Nat) (hS : Shp t m q d) (i j : Nat) (hi : i < q) (hj : j < d) (raise : Bool) (hx : Pos q d (cF t)) (hR : ∀ k, k < q → sm d (cF t k) ≤ 396) (hh : hF m i j = true) (h0 : 0 ≤ cF t i j + stp raise)
    (w : World) (hb : Below W.heap.size W w) (B T : Nat) (hB : W.heap.size ≤ B) (hv : InR w B T v t) :
    Calls Tryd.prog 96 #[v, u, .int .i64 i, .int .i64 j, .bool raise] w (OutChg W B T v t m q d i j raise) := by
  have HU := Lib.hid hu
  have HSH := Lib.hid hS
  have HB := Lib.hid hb
  have HV := Lib.hid hv
  have HX := Lib.hid hx
  have HR := Lib.hid hR
  have HH := Lib.hid hh
  have H0 := Lib.hid h0
  have htl := hS.tl
  have hTw := hv.1
  obtain ⟨g, c, gi, ci, hvv, x1, x2, x3, x4, x5, x6, x7⟩ := Mine.cell hv (i := i) (j := j) (by omega) (by rw [hS.tr i hi]; exact hj)
  clear x1 x2 x3 x4 x5 x6 x7
  rw [htl] at hvv
  subst hvv
  clear hu hS hb hv hx hR hh h0 htl
  go_enter Tryd.func96, Tryd.ntmps96
  go_wp2_with fail
  refine (sPath_is w t _ HV.out.is m _ (HU.out.below HB.out) q d HSH.out i j hi hj raise w (Below.refl _ _)).mono ?_
  rintro e w1 ⟨gp, cp, par, work, ord, rfl, hpa, hbf, hcl, hb1⟩
  have HPA := Lib.hid hpa
  have HBF := Lib.hid hbf
  have HCL := Lib.hid hcl
  have HB1 := Lib.hid hb1
  have HV1 := Lib.hid (HV.out.below hb1)
  obtain ⟨n, hn⟩ : ∃ n, n = q + d := ⟨_, rfl⟩
  obtain ⟨z, hz⟩ : ∃ z, z = q + j := ⟨_, rfl⟩
  have HN := Lib.hid hn
  have HZ := Lib.hid hz
  have hn8 : n ≤ 8 := by have := HSH.out.q4; have := HSH.out.d4; omega
  have hq4 : q ≤ 4 := HSH.out.q4
  have hd4 : d ≤ 4 := HSH.out.d4
  have hzn : z < n := by omega
  have hzni : (z : Int) < (n : Int) := by omega
  have hzi : (q : Int) + (j : Int) = (z : Int) := by omega
  have hgp := hpa.ob gp rfl
  have par_at : ∀ (w' : World) (p : Nat), p < n → Own1 TN w' w.heap.size (.slice (some ⟨gp, 0, none⟩) (q + d) cp) (icells par) → w'.cell? ⟨gp, p, none⟩ = some (.int .i64 (par.getD p (-1))) := fun w' p hp ho => by
    have hl : p < par.length := by rw [hbf.plen, ← hn]; exact hp
    rw [(ho.cellAt p (by rw [icells_len]; exact hl)).1, icells, List.getElem?_map, List.getElem?_eq_getElem hl, getD_of _ _ hl]; rfl
  have PAT := Lib.hid par_at
  have e0 := par_at w1 z hzn hpa
  obtain ⟨y, hy⟩ : ∃ y, par.getD z (-1) = y := ⟨_, rfl⟩
  rw [hy] at e0
  have HY := Lib.hid hy
  rw [← hn]
  clear hpa hbf hcl hb1 hn hz hy par_at
  by_cases hy0 : y < 0
  · have hyb : decide (y < 0) = true := decide_eq_true hy0
    go_wp2
    go_ret
    exact ⟨false, t, rfl, HV1.out, HSH.out, HB.out.trans (HB1.out.mono HB.out.size), .inl ⟨rfl, rfl, par, HCL.out, HBF.out.in_ HBF.out.w0, by rw [← HZ.out, HY.out]; exact hy0⟩⟩
  have HYP := Lib.hid (show 0 ≤ par.getD (q + j) (-1) by rw [← HZ.out, HY.out]; omega)
  obtain ⟨g', c', gi', ci', hvv, k1, k2, k3, k4, k5, k6, k7⟩ := Mine.cell HV1.out (i := i) (j := j) (by rw [HSH.out.tl]; exact hi) (by rw [HSH.out.tr i hi]; exact hj)
  injection hvv with q1 q2 q3
  injection q1 with q1
  injection q1 with q1 _ _
  subst q1 q3
  clear q2
  rw [HSH.out.tr i hi] at k1
  obtain ⟨y1, hy1⟩ : ∃ y, (t.getD i []).getD j 0 = y := ⟨_, rfl⟩
  rw [hy1] at k5
  have hy1b : 0 ≤ y1 ∧ y1 ≤ 396 := by
    rw [← hy1]
    exact ⟨HX.out i j hi hj, Int.le_trans (cell_row HX.out hi hj) (HR.out i hi)⟩
  obtain ⟨s, hs⟩ : ∃ s, stp raise = s := ⟨_, rfl⟩
  have hsb : s = 1 ∨ s = -1 := by rw [← hs]; unfold stp; split <;> omega
  have HSS := Lib.hid hs
  have hii : (i : Int) < (q : Int) := by omega
  have hji : (j : Int) < (d : Int) := by omega
  have hyb : decide (y < 0) = false := decide_eq_false hy0
  have hB2 : W.heap.size ≤ gi' := Nat.le_trans hB k3.1
  have hgT : gi' < w.heap.size := Nat.lt_of_lt_of_le k3.2 hTw
  have HCE := Lib.hid (show cF t i j = y1 from hy1)
  have PKEEP := Lib.hid (show ∀ (w' : World) (a b : Nat) (x : Value), a < w.heap.size → Own1 TN w' w.heap.size (.slice (some ⟨gp, 0, none⟩) n cp) (icells par) → Own1 TN (w'.setCell ⟨a, b, none⟩ x) w.heap.size (.slice (some ⟨gp, 0, none⟩) n cp) (icells par) from fun w' a b x ha ho => ho.same fun k5 e5 => Below.heap_setCell w' ⟨a, b, none⟩ x k5 (by
    have e6 : some gp = some k5 := e5
    injection e6 with e6
    show k5 ≠ a; omega))
  have HPN := Lib.hid (show Own1 TN w1 w.heap.size (.slice (some ⟨gp, 0, none⟩) n cp) (icells par) by rw [HN.out]; exact HPA.out)
  have HZW := Lib.hid (show z ∈ work from HBF.out.mem z (by rw [← HN.out]; exact hzn) (by rw [HY.out]; omega))
  clear hy1 k2 k3 k4 hgp HCL
  cases raise
  · have h1 : s = -1 := by rw [← HSS.out]; rfl
    subst h1
    obtain ⟨z1, hz1⟩ : ∃ z1 : Int, z1 = y1 + (-1) := ⟨_, rfl⟩
    have hw0 : IntKind.i64.wrap (y1 + -1) = z1 := by rw [IntKind.wrap_i64] <;> omega
    obtain ⟨X, hX⟩ : ∃ X, X = w1.drew.setCell ⟨gi', j, none⟩ (.int .i64 z1) := ⟨_, rfl⟩
    have HXE := Lib.hid hX
    have HM0 := Lib.hid (show Mine X B T (.slice (some ⟨g, 0, none⟩) q c) (t.set i ((t.getD i []).set j z1)) by rw [hX]; exact k7 z1)
    have HP0 := Lib.hid (show Own1 TN X w.heap.size (.slice (some ⟨gp, 0, none⟩) n cp) (icells par) by rw [hX]; exact PKEEP.out w1.drew gi' j _ hgT HPN.out)
    have HB0 := Lib.hid (show Below W.heap.size W X by rw [hX]; exact (HB.out.trans (HB1.out.mono HB.out.size)).drew.setCell (p := ⟨gi', j, none⟩) hB2 _)
    have HMID := Lib.hid (show Mid q d (hF m) (cF t) i j (stp false) ord z (cF (t.set i ((t.getD i []).set j z1))) by
      have e : cF (t.set i ((t.getD i []).set j z1)) = up1 (cF t) i j (stp false) := by
        rw [cF_set (by rw [HSH.out.tl]; exact hi) (by rw [HSH.out.tr i hi]; exact hj), HCE.out, HSS.out]
        congr 1; omega
      rw [e, HZ.out]; exact mid_start HX.out hi hj HH.out H0.out)
    have HSX := Lib.hid (HSH.out.set (v := z1) (l := j) hi)
    clear k7 hX hz1
    go_wp2
    go_still_tail 15, (by kernel_rfl)
    change wpList _ _ _ _ _ w1.drew
    have k1' : w1.drew.cell? ⟨g, i, none⟩ = some (.slice (some ⟨gi', 0, none⟩) d ci') := k1
    have k5' : w1.drew.cell? ⟨gi', j, none⟩ = some (.int .i64 y1) := k5
    have k6' : w1.drew.frozen? ⟨gi', j, none⟩ = false := k6
    clear k1 k5 k6
    generalize w1.drew = W2 at *
    go_wp2
    rw [← HXE.out]
    clear k1' k5' k6' e0
    go_loopw [12] (fun a wr => ∃ (p : Nat) (t' : Tb), a = .int .i64 p ∧ p ∈ work ∧ Mid q d (hF m) (cF t) i j (stp false) ord p (cF t') ∧ Mine wr B T (.slice (some ⟨g, 0, none⟩) q c) t' ∧ Own1 TN wr w.heap.size (.slice (some ⟨gp, 0, none⟩) n cp) (icells par) ∧ Shp t' m q d ∧ Below W.heap.size W wr) (fun a _ => ord (intOf a).toNat)
    case atStart => exact ⟨z, _, rfl, HZW.out, HMID.out, HM0.out, HP0.out, HSX.out, HB0.out⟩
    case round =>
      clear HM0 HP0 HB0 HMID HSX HXE hw0
      obtain ⟨p, t', rfl, hpw, hm, hv, hp, hs', hb⟩ := hrel
      have HMD := Lib.hid hm
      have HVR := Lib.hid hv
      have HPR := Lib.hid hp
      have HSR := Lib.hid hs'
      have HBR := Lib.hid hb
      have hpn : p < n := by rw [HN.out]; exact HBF.out.wlt p hpw
      have hpni : (p : Int) < (n : Int) := by omega
      by_cases hpi : p = i
      · have hpb : ((p : Int) != (i : Int)) = false := by simp [hpi]
        have HF := Lib.hid (mid_end (by rw [hpi] at hm; exact hm) hi)
        have HO := Lib.hid hm.own
        clear hm hv hp hs' hb hpw hpi
        go_wp2
        go_ret
        exact ⟨true, t', rfl, HVR.out, HSR.out, HBR.out, .inr ⟨rfl, HF.out, HO.out⟩⟩
      · have hpb : ((p : Int) != (i : Int)) = true := by rw [bne_iff_ne]; omega
        obtain ⟨p', h1, h2, h4, h5⟩ := path_step HBF.out HX.out hpw hpi hm
        have e1 := PAT.out wr p hpn (by rw [← HN.out]; exact hp)
        rw [h2] at e1
        have H1W := Lib.hid h1
        have H2 := Lib.hid h2
        have H4 := Lib.hid h4
        have hp'n : p' < n := by rw [HN.out]; exact HBF.out.wlt p' h1
        clear hm hv hp hs' hb h1 h2 h4 hpw hpi
        rcases h5 with ⟨c1, c2, c3, c4, m'⟩ | ⟨c1, c2, c3, c4, m'⟩
        · obtain ⟨l, hl⟩ : ∃ l, l = p - q := ⟨_, rfl⟩
          rw [← hl] at m' c4
          have hpl : p = q + l := by omega
          have hkq : p' < q := c3
          have HPL := Lib.hid hpl
          have hld : l < d := by omega
          obtain ⟨g', c', gi', ci', hvv, k1, k2, k3, k4, k5, k6, k7⟩ := Mine.cell HVR.out (i := p') (j := l) (by rw [HSR.out.tl]; exact hkq) (by rw [HSR.out.tr p' hkq]; exact hld)
          injection hvv with q1 q2 q3
          injection q1 with q1
          injection q1 with q1 _ _
          subst q1 q3
          clear q2
          rw [HSR.out.tr p' hkq] at k1
          obtain ⟨y2, hy2⟩ : ∃ y, (t'.getD p' []).getD l 0 = y := ⟨_, rfl⟩
          rw [hy2] at k5
          have hy2b : 0 ≤ y2 ∧ y2 ≤ 398 := by rw [← hy2]; exact mid_bd HMD.out HR.out hkq hld
          have HCY := Lib.hid (show cF t' p' l = y2 from hy2)
          obtain ⟨z2, hz2⟩ : ∃ z2 : Int, z2 = y2 - -1 := ⟨_, rfl⟩
          have hv0 : IntKind.i64.wrap (y2 - -1) = z2 := by rw [IntKind.wrap_i64] <;> omega
          have hv1 : IntKind.i64.wrap (y2 + 1) = z2 := by rw [IntKind.wrap_i64] <;> omega
          obtain ⟨X, hX⟩ : ∃ X, X = wr.drew.setCell ⟨gi', l, none⟩ (.int .i64 z2) := ⟨_, rfl⟩
          have HXE := Lib.hid hX
          have hB3 : W.heap.size ≤ gi' := Nat.le_trans hB k3.1
          have hgT3 : gi' < w.heap.size := Nat.lt_of_lt_of_le k3.2 hTw
          have HMX := Lib.hid (show Mine X B T (.slice (some ⟨g, 0, none⟩) q c) (t'.set p' ((t'.getD p' []).set l z2)) by rw [hX]; exact k7 z2)
          have HPX := Lib.hid (show Own1 TN X w.heap.size (.slice (some ⟨gp, 0, none⟩) n cp) (icells par) by rw [hX]; exact PKEEP.out wr.drew gi' l _ hgT3 HPR.out)
          have HBX := Lib.hid (show Below W.heap.size W X by rw [hX]; exact HBR.out.drew.setCell (p := ⟨gi', l, none⟩) hB3 _)
          have HMIDX := Lib.hid (show Mid q d (hF m) (cF t) i j (stp false) ord p' (cF (t'.set p' ((t'.getD p' []).set l z2))) by
            have e : cF (t'.set p' ((t'.getD p' []).set l z2)) = up1 (cF t') p' l (-(stp false)) := by
              rw [cF_set (by rw [HSR.out.tl]; exact hkq) (by rw [HSR.out.tr p' hkq]; exact hld), HCY.out, HSS.out]
              congr 1; omega
            rw [e]; exact m')
          have HSX := Lib.hid (HSR.out.set (v := z2) (l := l) hkq)
          have EX := Lib.hid (show X.cell? ⟨gp, p, none⟩ = some (.int .i64 p') by rw [PAT.out X p hpn (by rw [← HN.out]; exact HPX.out), H2.out])
          have hkqi : (p' : Int) < (q : Int) := by omega
          have hldi : (l : Int) < (d : Int) := by omega
          have hl9 : l ≤ 100 := by omega
          have hq9 : q ≤ 100 := by omega
          have hcmp : (p' : Int) < (q : Int) := by omega
          clear k7 hX hz2 hy2 m' hl hpl k2 k4 c4
          go_wp2_with fail
          refine (sCell_row q p' l p hkq HPL.out hq9 hl9 wr).mono ?_
          rintro e w9 ⟨rfl, rfl⟩
          go_wp2
          go_still_tail 15, (by kernel_rfl)
          change wpList _ _ _ _ _ w9.drew
          have k1' : w9.drew.cell? ⟨g, p', none⟩ = some (.slice (some ⟨gi', 0, none⟩) d ci') := k1
          have k5' : w9.drew.cell? ⟨gi', l, none⟩ = some (.int .i64 y2) := k5
          have k6' : w9.drew.frozen? ⟨gi', l, none⟩ = false := k6
          have e1' : w9.drew.cell? ⟨gp, p, none⟩ = some (.int .i64 p') := e1
          have hne : ¬ gp = gi' := by have := (HPR.out.ob gp rfl).1; omega
          have hne' : ¬ gi' = gp := fun e => hne e.symm
          clear k1 k5 k6 e1
          generalize w9.drew = W2 at *
          have e2' : (W2.setCell ⟨gi', l, none⟩ (.int .i64 z2)).cell? ⟨gp, p, none⟩ = some (.int .i64 p') := by rw [← HXE.out]; exact EX.out
          go_wp2
          rw [← HXE.out]
          go_roundw
          case rel => exact ⟨p', _, rfl, H1W.out, HMIDX.out, HMX.out, HPX.out, HSX.out, HBX.out⟩
          case measure => simp [intOf]; exact H4.out
        · obtain ⟨l, hl⟩ : ∃ l, l = p' - q := ⟨_, rfl⟩
          rw [← hl] at m' c4
          have hpl : p' = q + l := by omega
          have hkq : p < q := c1
          have HPL := Lib.hid hpl
          have hld : l < d := by omega
          obtain ⟨g', c', gi', ci', hvv, k1, k2, k3, k4, k5, k6, k7⟩ := Mine.cell HVR.out (i := p) (j := l) (by rw [HSR.out.tl]; exact hkq) (by rw [HSR.out.tr p hkq]; exact hld)
          injection hvv with q1 q2 q3
          injection q1 with q1
          injection q1 with q1 _ _
          subst q1 q3
          clear q2
          rw [HSR.out.tr p hkq] at k1
          obtain ⟨y2, hy2⟩ : ∃ y, (t'.getD p []).getD l 0 = y := ⟨_, rfl⟩
          rw [hy2] at k5
          have hy2b : 0 ≤ y2 ∧ y2 ≤ 398 := by rw [← hy2]; exact mid_bd HMD.out HR.out hkq hld
          have HCY := Lib.hid (show cF t' p l = y2 from hy2)
          obtain ⟨z2, hz2⟩ : ∃ z2 : Int, z2 = y2 + -1 := ⟨_, rfl⟩
          have hv0 : IntKind.i64.wrap (y2 + -1) = z2 := by rw [IntKind.wrap_i64] <;> omega
          have hv1 : IntKind.i64.wrap (y2 - 1) = z2 := by rw [IntKind.wrap_i64] <;> omega
          obtain ⟨X, hX⟩ : ∃ X, X = wr.drew.setCell ⟨gi', l, none⟩ (.int .i64 z2) := ⟨_, rfl⟩
          have HXE := Lib.hid hX
          have hB3 : W.heap.size ≤ gi' := Nat.le_trans hB k3.1
          have hgT3 : gi' < w.heap.size := Nat.lt_of_lt_of_le k3.2 hTw
          have HMX := Lib.hid (show Mine X B T (.slice (some ⟨g, 0, none⟩) q c) (t'.set p ((t'.getD p []).set l z2)) by rw [hX]; exact k7 z2)
          have HPX := Lib.hid (show Own1 TN X w.heap.size (.slice (some ⟨gp, 0, none⟩) n cp) (icells par) by rw [hX]; exact PKEEP.out wr.drew gi' l _ hgT3 HPR.out)
          have HBX := Lib.hid (show Below W.heap.size W X by rw [hX]; exact HBR.out.drew.setCell (p := ⟨gi', l, none⟩) hB3 _)
          have HMIDX := Lib.hid (show Mid q d (hF m) (cF t) i j (stp false) ord p' (cF (t'.set p ((t'.getD p []).set l z2))) by
            have e : cF (t'.set p ((t'.getD p []).set l z2)) = up1 (cF t') p l (stp false) := by
              rw [cF_set (by rw [HSR.out.tl]; exact hkq) (by rw [HSR.out.tr p hkq]; exact hld), HCY.out, HSS.out]
              congr 1; omega
            rw [e]; exact m')
          have HSX := Lib.hid (HSR.out.set (v := z2) (l := l) hkq)
          have EX := Lib.hid (show X.cell? ⟨gp, p, none⟩ = some (.int .i64 p') by rw [PAT.out X p hpn (by rw [← HN.out]; exact HPX.out), H2.out])
          have hkqi : (p : Int) < (q : Int) := by omega
          have hldi : (l : Int) < (d : Int) := by omega
          have hl9 : l ≤ 100 := by omega
          have hq9 : q ≤ 100 := by omega
          have hcmp : ¬ (p' : Int) < (q : Int) := by omega
          clear k7 hX hz2 hy2 m' hl hpl k2 k4 c4
          go_wp2_with fail
          refine (sCell_col q p l p' hkq HPL.out hq9 hl9 wr).mono ?_
          rintro e w9 ⟨rfl, rfl⟩
          go_wp2
          go_still_tail 15, (by kernel_rfl)
          change wpList _ _ _ _ _ w9.drew
          have k1' : w9.drew.cell? ⟨g, p, none⟩ = some (.slice (some ⟨gi', 0, none⟩) d ci') := k1
          have k5' : w9.drew.cell? ⟨gi', l, none⟩ = some (.int .i64 y2) := k5
          have k6' : w9.drew.frozen? ⟨gi', l, none⟩ = false := k6
          have e1' : w9.drew.cell? ⟨gp, p, none⟩ = some (.int .i64 p') := e1
          have hne : ¬ gp = gi' := by have := (HPR.out.ob gp rfl).1; omega
          have hne' : ¬ gi' = gp := fun e => hne e.symm
          clear k1 k5 k6 e1
          generalize w9.drew = W2 at *
          have e2' : (W2.setCell ⟨gi', l, none⟩ (.int .i64 z2)).cell? ⟨gp, p, none⟩ = some (.int .i64 p') := by rw [← HXE.out]; exact EX.out
          go_wp2
          rw [← HXE.out]
          go_roundw
          case rel => exact ⟨p', _, rfl, H1W.out, HMIDX.out, HMX.out, HPX.out, HSX.out, HBX.out⟩
          case measure => simp [intOf]; exact H4.out
  · have h1 : s = 1 := by rw [← HSS.out]; rfl
    subst h1
    obtain ⟨z1, hz1⟩ : ∃ z1 : Int, z1 = y1 + (1) := ⟨_, rfl⟩
    have hw0 : IntKind.i64.wrap (y1 + 1) = z1 := by rw [IntKind.wrap_i64] <;> omega
    obtain ⟨X, hX⟩ : ∃ X, X = w1.drew.setCell ⟨gi', j, none⟩ (.int .i64 z1) := ⟨_, rfl⟩
    have HXE := Lib.hid hX
    have HM0 := Lib.hid (show Mine X B T (.slice (some ⟨g, 0, none⟩) q c) (t.set i ((t.getD i []).set j z1)) by rw [hX]; exact k7 z1)
    have HP0 := Lib.hid (show Own1 TN X w.heap.size (.slice (some ⟨gp, 0, none⟩) n cp) (icells par) by rw [hX]; exact PKEEP.out w1.drew gi' j _ hgT HPN.out)
    have HB0 := Lib.hid (show Below W.heap.size W X by rw [hX]; exact (HB.out.trans (HB1.out.mono HB.out.size)).drew.setCell (p := ⟨gi', j, none⟩) hB2 _)
    have HMID := Lib.hid (show Mid q d (hF m) (cF t) i j (stp true) ord z (cF (t.set i ((t.getD i []).set j z1))) by
      have e : cF (t.set i ((t.getD i []).set j z1)) = up1 (cF t) i j (stp true) := by
        rw [cF_set (by rw [HSH.out.tl]; exact hi) (by rw [HSH.out.tr i hi]; exact hj), HCE.out, HSS.out]
        congr 1; omega
      rw [e, HZ.out]; exact mid_start HX.out hi hj HH.out H0.out)
    have HSX := Lib.hid (HSH.out.set (v := z1) (l := j) hi)
    clear k7 hX hz1
    go_wp2
    go_still_tail 15, (by kernel_rfl)
    change wpList _ _ _ _ _ w1.drew
    have k1' : w1.drew.cell? ⟨g, i, none⟩ = some (.slice (some ⟨gi', 0, none⟩) d ci') := k1
    have k5' : w1.drew.cell? ⟨gi', j, none⟩ = some (.int .i64 y1) := k5
    have k6' : w1.drew.frozen? ⟨gi', j, none⟩ = false := k6
    clear k1 k5 k6
    generalize w1.drew = W2 at *
    go_wp2
    rw [← HXE.out]
    clear k1' k5' k6' e0
    go_loopw [12] (fun a wr => ∃ (p : Nat) (t' : Tb), a = .int .i64 p ∧ p ∈ work ∧ Mid q d (hF m) (cF t) i j (stp true) ord p (cF t') ∧ Mine wr B T (.slice (some ⟨g, 0, none⟩) q c) t' ∧ Own1 TN wr w.heap.size (.slice (some ⟨gp, 0, none⟩) n cp) (icells par) ∧ Shp t' m q d ∧ Below W.heap.size W wr) (fun a _ => ord (intOf a).toNat)
    case atStart => exact ⟨z, _, rfl, HZW.out, HMID.out, HM0.out, HP0.out, HSX.out, HB0.out⟩
    case round =>
      clear HM0 HP0 HB0 HMID HSX HXE hw0
      obtain ⟨p, t', rfl, hpw, hm, hv, hp, hs', hb⟩ := hrel
      have HMD := Lib.hid hm
      have HVR := Lib.hid hv
      have HPR := Lib.hid hp
      have HSR := Lib.hid hs'
      have HBR := Lib.hid hb
      have hpn : p < n := by rw [HN.out]; exact HBF.out.wlt p hpw
      have hpni : (p : Int) < (n : Int) := by omega
      by_cases hpi : p = i
      · have hpb : ((p : Int) != (i : Int)) = false := by simp [hpi]
        have HF := Lib.hid (mid_end (by rw [hpi] at hm; exact hm) hi)
        have HO := Lib.hid hm.own
        clear hm hv hp hs' hb hpw hpi
        go_wp2
        go_ret
        exact ⟨true, t', rfl, HVR.out, HSR.out, HBR.out, .inr ⟨rfl, HF.out, HO.out⟩⟩
      · have hpb : ((p : Int) != (i : Int)) = true := by rw [bne_iff_ne]; omega
        obtain ⟨p', h1, h2, h4, h5⟩ := path_step HBF.out HX.out hpw hpi hm
        have e1 := PAT.out wr p hpn (by rw [← HN.out]; exact hp)
        rw [h2] at e1
        have H1W := Lib.hid h1
        have H2 := Lib.hid h2
        have H4 := Lib.hid h4
        have hp'n : p' < n := by rw [HN.out]; exact HBF.out.wlt p' h1
        clear hm hv hp hs' hb h1 h2 h4 hpw hpi
        rcases h5 with ⟨c1, c2, c3, c4, m'⟩ | ⟨c1, c2, c3, c4, m'⟩
        · obtain ⟨l, hl⟩ : ∃ l, l = p - q := ⟨_, rfl⟩
          rw [← hl] at m' c4
          have hpl : p = q + l := by omega
          have hkq : p' < q := c3
          have HPL := Lib.hid hpl
          have hld : l < d := by omega
          obtain ⟨g', c', gi', ci', hvv, k1, k2, k3, k4, k5, k6, k7⟩ := Mine.cell HVR.out (i := p') (j := l) (by rw [HSR.out.tl]; exact hkq) (by rw [HSR.out.tr p' hkq]; exact hld)
          injection hvv with q1 q2 q3
          injection q1 with q1
          injection q1 with q1 _ _
          subst q1 q3
          clear q2
          rw [HSR.out.tr p' hkq] at k1
          obtain ⟨y2, hy2⟩ : ∃ y, (t'.getD p' []).getD l 0 = y := ⟨_, rfl⟩
          rw [hy2] at k5
          have hy2b : 0 ≤ y2 ∧ y2 ≤ 398 := by rw [← hy2]; exact mid_bd HMD.out HR.out hkq hld
          have HCY := Lib.hid (show cF t' p' l = y2 from hy2)
          obtain ⟨z2, hz2⟩ : ∃ z2 : Int, z2 = y2 - 1 := ⟨_, rfl⟩
          have hv0 : IntKind.i64.wrap (y2 - 1) = z2 := by rw [IntKind.wrap_i64] <;> omega
          have hv1 : IntKind.i64.wrap (y2 + -1) = z2 := by rw [IntKind.wrap_i64] <;> omega
          obtain ⟨X, hX⟩ : ∃ X, X = wr.drew.setCell ⟨gi', l, none⟩ (.int .i64 z2) := ⟨_, rfl⟩
          have HXE := Lib.hid hX
          have hB3 : W.heap.size ≤ gi' := Nat.le_trans hB k3.1
          have hgT3 : gi' < w.heap.size := Nat.lt_of_lt_of_le k3.2 hTw
          have HMX := Lib.hid (show Mine X B T (.slice (some ⟨g, 0, none⟩) q c) (t'.set p' ((t'.getD p' []).set l z2)) by rw [hX]; exact k7 z2)
          have HPX := Lib.hid (show Own1 TN X w.heap.size (.slice (some ⟨gp, 0, none⟩) n cp) (icells par) by rw [hX]; exact PKEEP.out wr.drew gi' l _ hgT3 HPR.out)
          have HBX := Lib.hid (show Below W.heap.size W X by rw [hX]; exact HBR.out.drew.setCell (p := ⟨gi', l, none⟩) hB3 _)
          have HMIDX := Lib.hid (show Mid q d (hF m) (cF t) i j (stp true) ord p' (cF (t'.set p' ((t'.getD p' []).set l z2))) by
            have e : cF (t'.set p' ((t'.getD p' []).set l z2)) = up1 (cF t') p' l (-(stp true)) := by
              rw [cF_set (by rw [HSR.out.tl]; exact hkq) (by rw [HSR.out.tr p' hkq]; exact hld), HCY.out, HSS.out]
              congr 1; omega
            rw [e]; exact m')
          have HSX := Lib.hid (HSR.out.set (v := z2) (l := l) hkq)
          have EX := Lib.hid (show X.cell? ⟨gp, p, none⟩ = some (.int .i64 p') by rw [PAT.out X p hpn (by rw [← HN.out]; exact HPX.out), H2.out])
          have hkqi : (p' : Int) < (q : Int) := by omega
          have hldi : (l : Int) < (d : Int) := by omega
          have hl9 : l ≤ 100 := by omega
          have hq9 : q ≤ 100 := by omega
          have hcmp : (p' : Int) < (q : Int) := by omega
          clear k7 hX hz2 hy2 m' hl hpl k2 k4 c4
          go_wp2_with fail
          refine (sCell_row q p' l p hkq HPL.out hq9 hl9 wr).mono ?_
          rintro e w9 ⟨rfl, rfl⟩
          go_wp2
          go_still_tail 15, (by kernel_rfl)
          change wpList _ _ _ _ _ w9.drew
          have k1' : w9.drew.cell? ⟨g, p', none⟩ = some (.slice (some ⟨gi', 0, none⟩) d ci') := k1
          have k5' : w9.drew.cell? ⟨gi', l, none⟩ = some (.int .i64 y2) := k5
          have k6' : w9.drew.frozen? ⟨gi', l, none⟩ = false := k6
          have e1' : w9.drew.cell? ⟨gp, p, none⟩ = some (.int .i64 p') := e1
          have hne : ¬ gp = gi' := by have := (HPR.out.ob gp rfl).1; omega
          have hne' : ¬ gi' = gp := fun e => hne e.symm
          clear k1 k5 k6 e1
          generalize w9.drew = W2 at *
          have e2' : (W2.setCell ⟨gi', l, none⟩ (.int .i64 z2)).cell? ⟨gp, p, none⟩ = some (.int .i64 p') := by rw [← HXE.out]; exact EX.out
          go_wp2
          rw [← HXE.out]
          go_roundw
          case rel => exact ⟨p', _, rfl, H1W.out, HMIDX.out, HMX.out, HPX.out, HSX.out, HBX.out⟩
          case measure => simp [intOf]; exact H4.out
        · obtain ⟨l, hl⟩ : ∃ l, l = p' - q := ⟨_, rfl⟩
          rw [← hl] at m' c4
          have hpl : p' = q + l := by omega
          have hkq : p < q := c1
          have HPL := Lib.hid hpl
          have hld : l < d := by omega
          obtain ⟨g', c', gi', ci', hvv, k1, k2, k3, k4, k5, k6, k7⟩ := Mine.cell HVR.out (i := p) (j := l) (by rw [HSR.out.tl]; exact hkq) (by rw [HSR.out.tr p hkq]; exact hld)
          injection hvv with q1 q2 q3
          injection q1 with q1
          injection q1 with q1 _ _
          subst q1 q3
          clear q2
          rw [HSR.out.tr p hkq] at k1
          obtain ⟨y2, hy2⟩ : ∃ y, (t'.getD p []).getD l 0 = y := ⟨_, rfl⟩
          rw [hy2] at k5
          have hy2b : 0 ≤ y2 ∧ y2 ≤ 398 := by rw [← hy2]; exact mid_bd HMD.out HR.out hkq hld
          have HCY := Lib.hid (show cF t' p l = y2 from hy2)
          obtain ⟨z2, hz2⟩ : ∃ z2 : Int, z2 = y2 + 1 := ⟨_, rfl⟩
          have hv0 : IntKind.i64.wrap (y2 + 1) = z2 := by rw [IntKind.wrap_i64] <;> omega
          have hv1 : IntKind.i64.wrap (y2 - -1) = z2 := by rw [IntKind.wrap_i64] <;> omega
          obtain ⟨X, hX⟩ : ∃ X, X = wr.drew.setCell ⟨gi', l, none⟩ (.int .i64 z2) := ⟨_, rfl⟩
          have HXE := Lib.hid hX
          have hB3 : W.heap.size ≤ gi' := Nat.le_trans hB k3.1
          have hgT3 : gi' < w.heap.size := Nat.lt_of_lt_of_le k3.2 hTw
          have HMX := Lib.hid (show Mine X B T (.slice (some ⟨g, 0, none⟩) q c) (t'.set p ((t'.getD p []).set l z2)) by rw [hX]; exact k7 z2)
          have HPX := Lib.hid (show Own1 TN X w.heap.size (.slice (some ⟨gp, 0, none⟩) n cp) (icells par) by rw [hX]; exact PKEEP.out wr.drew gi' l _ hgT3 HPR.out)
          have HBX := Lib.hid (show Below W.heap.size W X by rw [hX]; exact HBR.out.drew.setCell (p := ⟨gi', l, none⟩) hB3 _)
          have HMIDX := Lib.hid (show Mid q d (hF m) (cF t) i j (stp true) ord p' (cF (t'.set p ((t'.getD p []).set l z2))) by
            have e : cF (t'.set p ((t'.getD p []).set l z2)) = up1 (cF t') p l (stp true) := by
              rw [cF_set (by rw [HSR.out.tl]; exact hkq) (by rw [HSR.out.tr p hkq]; exact hld), HCY.out, HSS.out]
              congr 1; omega
            rw [e]; exact m')
          have HSX := Lib.hid (HSR.out.set (v := z2) (l := l) hkq)
          have EX := Lib.hid (show X.cell? ⟨gp, p, none⟩ = some (.int .i64 p') by rw [PAT.out X p hpn (by rw [← HN.out]; exact HPX.out), H2.out])
          have hkqi : (p : Int) < (q : Int) := by omega
          have hldi : (l : Int) < (d : Int) := by omega
          have hl9 : l ≤ 100 := by omega
          have hq9 : q ≤ 100 := by omega
          have hcmp : ¬ (p' : Int) < (q : Int) := by omega
          clear k7 hX hz2 hy2 m' hl hpl k2 k4 c4
          go_wp2_with fail
          refine (sCell_col q p l p' hkq HPL.out hq9 hl9 wr).mono ?_
          rintro e w9 ⟨rfl, rfl⟩
          go_wp2
          go_still_tail 15, (by kernel_rfl)
          change wpList _ _ _ _ _ w9.drew
          have k1' : w9.drew.cell? ⟨g, p, none⟩ = some (.slice (some ⟨gi', 0, none⟩) d ci') := k1
          have k5' : w9.drew.cell? ⟨gi', l, none⟩ = some (.int .i64 y2) := k5
          have k6' : w9.drew.frozen? ⟨gi', l, none⟩ = false := k6
          have e1' : w9.drew.cell? ⟨gp, p, none⟩ = some (.int .i64 p') := e1
          have hne : ¬ gp = gi' := by have := (HPR.out.ob gp rfl).1; omega
          have hne' : ¬ gi' = gp := fun e => hne e.symm
          clear k1 k5 k6 e1
          generalize w9.drew = W2 at *
          have e2' : (W2.setCell ⟨gi', l, none⟩ (.int .i64 z2)).cell? ⟨gp, p, none⟩ = some (.int .i64 p') := by rw [← HXE.out]; exact EX.out
          go_wp2
          rw [← HXE.out]
          go_roundw
          case rel => exact ⟨p', _, rfl, H1W.out, HMIDX.out, HMX.out, HPX.out, HSX.out, HBX.out⟩
          case measure => simp [intOf]; exact H4.out
end Go.Proofs.YtobgceebolmfcaaDoor
namespace Go.Proofs.YtobgceebolmfcaaDoor
open Go.RowKit
theorem mkT {t : Tb} {m : Mk} (h : mkOk t m = true) : Tab t := (mk_parts.1 h).1
set_option maxHeartbeats 1000000 in
theorem sOk_is (W : World) (t : Tb) (v : Value) (hv : IsR W v t) (m : Mk) (u : Value) (hu : IsM W u m) (i j : Int) (g : Bool) (hg : bOk t m i j = g) (w : World) (hb : Below W.heap.size W w) :
    Calls Tryd.prog 94 #[v, u, .int .i64 i, .int .i64 j] w (Back (.bool g) W) := by
  have HV := Lib.hid hv
  have HU := Lib.hid hu
  have HB := Lib.hid hb
  obtain ⟨A, c, hvv, a1, a2, a3⟩ := hv
  obtain ⟨q, hq⟩ : ∃ q, t.length = q := ⟨_, rfl⟩
  obtain ⟨mk, hmk⟩ : ∃ mk, mkOk t m = mk := ⟨_, rfl⟩
  have HMK := Lib.hid hmk
  rw [bOk, hmk, hq] at hg
  have HG := Lib.hid hg
  have HQ := Lib.hid hq
  have HL := Lib.hid a3
  rw [hq] at hvv
  subst hvv
  clear hu hb hmk hg hq a1 a2 a3
  go_enter Tryd.func94, Tryd.ntmps94
  go_wp2_with fail
  refine (sMask_is W t _ HV.out m _ HU.out mk HMK.out _ HB.out).mono ?_
  rintro e w1 ⟨rfl, b1⟩
  cases mk
  · have HR := Lib.hid HG.out
    go_wp2
    go_ret
    exact ⟨by rw [← HG.out]; rfl, b1⟩
  · have ht := mkT HMK.out
    obtain ⟨bt, ot, A0, c0, hA, hbt, e0, x1, x2, x3⟩ := HL.out.at_ 0 ht.h1
    have hd0 : (t.getD 0 []).length = wd t := ht.rlen ht.h1
    obtain ⟨d, hd⟩ : ∃ d, wd t = d := ⟨_, rfl⟩
    rw [hd0, hd] at e0
    subst hA
    have h14 := ht.h4
    have h11 := ht.h1
    have hd4 := ht.w4
    have hq0 : (0 : Int) < (q : Int) := by have := HQ.out; omega
    have hqn : 0 < q := by omega
    have hq4 : q ≤ 4 := by have := HQ.out; omega
    rw [hd] at hd4
    have HG2 := HG.out
    rw [hd] at HG2
    have HG3 := Lib.hid HG2
    have e1 : w1.cell? ⟨bt, ot, none⟩ = some (.slice A0 d c0) := (b1.cell (p := ⟨bt, ot, none⟩) hbt).trans e0
    obtain ⟨x, hx⟩ : ∃ x, in3 i 0 ((q : Int) - 1) = x := ⟨_, rfl⟩
    obtain ⟨y, hy⟩ : ∃ y, in3 j 0 ((d : Int) - 1) = y := ⟨_, rfl⟩
    have HXX := Lib.hid hx
    have HYY := Lib.hid hy
    clear ht e0 x1 x2 x3 hd0 hd h14 h11 hx hy HG2
    go_wp2_with fail
    refine (l6In_any i 0 ((q : Int) - 1) w1).mono ?_
    rintro e w2 ⟨rfl, rfl⟩
    rw [HXX.out]
    cases x
    · go_wp2
      go_ret
      exact ⟨by rw [← HG3.out, HXX.out]; rfl, b1⟩
    · go_wp2_with fail
      refine (l6In_any j 0 ((d : Int) - 1) w1).mono ?_
      rintro e w3 ⟨rfl, rfl⟩
      rw [HYY.out]
      go_wp2
      go_ret
      exact ⟨by rw [← HG3.out, HXX.out, HYY.out]; rfl, b1⟩
set_option maxRecDepth 100000 in
set_option maxHeartbeats 4000000 in
theorem sHigh_is (W : World) (t : Tb) (v : Value) (hv : IsR W v t) (m : Mk) (u : Value) (hu : IsM W u m) (i j : Int) (g : Int) (hg : hiI t m i j = g) (w : World) (hb : Below W.heap.size W w) :
    Calls Tryd.prog 85 #[v, u, .int .i64 i, .int .i64 j] w (Back (.int .i64 g) W) := by
  have HV := Lib.hid hv
  have HU := Lib.hid hu
  have HB := Lib.hid hb
  obtain ⟨ok, hok⟩ : ∃ ok, bOk t m i j = ok := ⟨_, rfl⟩
  have HOK := Lib.hid hok
  cases ok
  · have hgn := hiI_no hok
    rw [hg] at hgn
    subst hgn
    clear hv hu hb hok hg
    go_enter Tryd.func85, Tryd.ntmps85
    go_wp2_with fail
    refine (sOk_is W t _ HV.out m _ HU.out i j false HOK.out _ HB.out).mono ?_
    rintro e w1 ⟨rfl, b1⟩
    go_wp2
    go_ret
    exact ⟨rfl, b1⟩
  obtain ⟨hmk, hi0, hiq, hj0, hjd⟩ := bOk_iff.1 hok
  obtain ⟨a, rfl⟩ := Int.eq_ofNat_of_zero_le hi0
  obtain ⟨b, rfl⟩ := Int.eq_ofNat_of_zero_le hj0
  have ht := mkT hmk
  have HS := Lib.hid (shp_of hmk)
  have haq : a < t.length := by omega
  have hbd : b < wd t := by omega
  have hr6 : ∀ r ∈ t, r.length ≤ 100000 := fun r hr => by have := ht.len r hr; have := ht.w4; omega
  have h14 := ht.h4
  have HIS := Lib.hid (fun v => hiI_eq (v := v) hmk haq hbd)
  have HG := Lib.hid hg
  have HPOS := Lib.hid ht.posF
  have HROW := Lib.hid (fun k hk => ht.row_le (k := k) hk)
  have HL := Lib.hid (show t.length ≤ 1000 by omega)
  have HR6 := Lib.hid hr6
  obtain ⟨Am, cm, hum, b1, b2, b3⟩ := hu
  have hml := (mk_parts.1 hmk).2.1
  obtain ⟨bm, om, M0, d0, hM, hbm, f0, y1, y2, y3⟩ := b3.at_ a (by omega)
  obtain ⟨bm2, om2, hM2, hbm2, f2⟩ := flag_at y3 b (by rw [HS.out.mr a haq]; exact hbd)
  subst hM hM2
  rw [HS.out.mr a haq] at f0 y1
  rw [hml] at hum
  subst hum
  obtain ⟨q, hq⟩ : ∃ q, t.length = q := ⟨_, rfl⟩
  obtain ⟨d, hd⟩ : ∃ d, wd t = d := ⟨_, rfl⟩
  rw [hq, hd] at HS HIS
  rw [hq] at HU haq hiq HPOS HROW ⊢
  rw [hd] at f0 hbd hjd HPOS HROW
  obtain ⟨fl, hfl⟩ : ∃ fl, hF m a b = fl := ⟨_, rfl⟩
  have f3 : W.cell? ⟨bm2, om2 + b, none⟩ = some (.bool fl) := by rw [← hfl]; exact f2
  have HFL := Lib.hid hfl
  have HQ := Lib.hid hq
  have HD := Lib.hid hd
  have haqn : (a : Int) < (q : Int) := by omega
  have hbdn : (b : Int) < (d : Int) := by omega
  have F0 := Lib.hid f0
  have F3 := Lib.hid f3
  clear f0 f3
  clear hv hb hok hg ht hmk hr6 h14 b1 b2 b3 y1 y2 y3 f2 hml hfl hi0 hj0 hiq hjd hq hd
  go_enter Tryd.func85, Tryd.ntmps85
  go_wp2_with fail
  refine (sOk_is W t _ HV.out m _ HU.out a b true HOK.out _ HB.out).mono ?_
  rintro e w1 ⟨rfl, b1⟩
  go_wp2_with fail
  refine (sCopy_is W t _ HV.out HL.out HR6.out w1 b1).mono ?_
  rintro e w2 ⟨xv, rfl, ho, h2⟩
  obtain ⟨g5, c5, gi5, ci5, hxv, z1, z2, z3, z4, z5, z6, z7⟩ := Mine.cell ho (i := a) (j := b) (by rw [HQ.out]; exact haq) (by rw [HS.out.tr a haq]; exact hbd)
  clear z1 z2 z3 z4 z5 z6 z7
  rw [HQ.out] at hxv
  subst hxv
  obtain ⟨B, hB⟩ : ∃ B, w1.heap.size = B := ⟨_, rfl⟩
  obtain ⟨T, hT⟩ : ∃ T, w2.heap.size = T := ⟨_, rfl⟩
  rw [hB, hT] at ho
  have hWB : W.heap.size ≤ B := by rw [← hB]; exact b1.size
  have HO := Lib.hid ho
  have HB2 := Lib.hid (show Below W.heap.size W w2 from b1.trans (h2.mono b1.size))
  have f0 : w2.cell? ⟨bm, om + a, none⟩ = some (.slice (some ⟨bm2, om2, none⟩) d d0) := (HB2.out.cell (p := ⟨bm, om + a, none⟩) hbm).trans F0.out
  have f3 : w2.cell? ⟨bm2, om2 + b, none⟩ = some (.bool fl) := (HB2.out.cell (p := ⟨bm2, om2 + b, none⟩) hbm2).trans F3.out
  clear ho h2 b1 hB hT
  go_wp2
  clear f0 f3
  go_loopg [10] 400 (fun k more wr => ∃ t', Mine wr B T (.slice (some ⟨g5, 0, none⟩) q c5) t' ∧ Shp t' m q d ∧ FitF q d (hF m) (cF t) (cF t') ∧ Below W.heap.size W wr ∧ ((more = .bool true ∧ fl = true ∧ (397 - cF t' a b).toNat + 1 ≤ k) ∨ (more = .bool false ∧ ∀ z, FitF q d (hF m) (cF t) z → z a b ≤ cF t' a b)))
  case atStart =>
    refine ⟨t, HO.out, HS.out, FitF.refl HPOS.out, HB2.out, ?_⟩
    cases fl
    · exact .inr ⟨rfl, fun z hz => by rw [hz.off a b haq hbd HFL.out]; exact Int.le_refl _⟩
    · have h1 := cell_row HPOS.out haq hbd
      have h2 := HROW.out a haq
      have h3 := HPOS.out a b haq hbd
      exact .inl ⟨rfl, rfl, by omega⟩
  case round =>
    obtain ⟨t', hm, hs, hf, hbw, hst⟩ := hrel
    have HM := Lib.hid hm
    have HSH := Lib.hid hs
    have HF := Lib.hid hf
    have HBW := Lib.hid hbw
    obtain ⟨g6, c6, gi6, ci6, hxv, k1, k2, k3, k4, k5, k6, k7⟩ := Mine.cell hm (i := a) (j := b) (by rw [hs.tl]; exact haq) (by rw [hs.tr a haq]; exact hbd)
    injection hxv with q1 q2 q3
    injection q1 with q1
    injection q1 with q1 _ _
    subst q1 q3
    clear q2 k2 k3 k4 k6 k7
    rw [hs.tr a haq] at k1
    obtain ⟨y, hy⟩ : ∃ y, cF t' a b = y := ⟨_, rfl⟩
    have hyy : (t'.getD a []).getD b 0 = y := hy
    rw [hyy] at k5
    have HY := Lib.hid hy
    have hyb : 0 ≤ y ∧ y ≤ 396 := by
      rw [← hy]
      exact ⟨hf.pos a b haq hbd, Int.le_trans (fit_row hf haq hbd) (HROW.out a haq)⟩
    clear hm hs hbw hy hyy
    have HEND := Lib.hid (show (∀ z, FitF q d (hF m) (cF t) z → z a b ≤ cF t' a b) → g = y from fun hh => by
      rw [← HG.out, HIS.out _ ⟨⟨cF t', HF.out, rfl⟩, hh⟩]; exact HY.out)
    clear hf
    rcases hst with ⟨rfl, hfl, hk⟩ | ⟨rfl, hmax⟩
    · subst hfl
      rw [HY.out] at hk
      go_wp2_with fail
      refine (sChange_is W t' _ m _ HU.out q d HSH.out a b haq hbd true HF.out.pos (fun k hk2 => by rw [HF.out.row k hk2]; exact HROW.out k hk2) HFL.out (by rw [HY.out]; show 0 ≤ y + 1; omega) wr HBW.out B T hWB HM.out).mono ?_
      rintro e w5 ⟨r, t2, rfl, hm2, hs2, hb2, hr⟩
      have HM2 := Lib.hid hm2
      have HS2 := Lib.hid hs2
      have HB5 := Lib.hid hb2
      have HR5 := Lib.hid hr
      clear hm2 hs2 hb2 hr k1 k5 HEND
      cases r
      · go_wp2
        go_roundg (gk - 1)
        case measure => omega
        case rel =>
          rcases HR5.out with ⟨_, e5, par, c1, c2, c3⟩ | ⟨e5, _⟩
          · subst e5
            exact ⟨_, HM2.out, HS2.out, HF.out, HB5.out, .inr ⟨rfl, fun z hz => closed_high (x := cF t2) c1 haq hbd HF.out.pos c2 c3 ((HF.out.symm HPOS.out).trans hz)⟩⟩
          · cases e5
      · go_wp2
        go_roundg (gk - 1)
        case measure => omega
        case rel =>
          rcases HR5.out with ⟨e5, _⟩ | ⟨_, hf2, hv2⟩
          · cases e5
          · have hf3 := HF.out.trans hf2
            have h1 := Int.le_trans (fit_row hf3 haq hbd) (HROW.out a haq)
            have h2 := hf3.pos a b haq hbd
            rw [HY.out] at hv2
            have hv3 : cF t2 a b = y + 1 := hv2
            exact ⟨t2, HM2.out, HS2.out, hf3, HB5.out, .inl ⟨rfl, trivial, by rw [hv3]; rw [hv3] at h1 h2; omega⟩⟩
    · have HE := Lib.hid (HEND.out hmax)
      clear hmax HEND
      go_wp2
      go_ret
      exact ⟨by rw [HE.out]; rfl, HBW.out⟩
set_option maxRecDepth 100000 in
set_option maxHeartbeats 4000000 in
theorem sLow_is (W : World) (t : Tb) (v : Value) (hv : IsR W v t) (m : Mk) (u : Value) (hu : IsM W u m) (i j : Int) (g : Int) (hg : loI t m i j = g) (w : World) (hb : Below W.heap.size W w) :
    Calls Tryd.prog 86 #[v, u, .int .i64 i, .int .i64 j] w (Back (.int .i64 g) W) := by
  have HV := Lib.hid hv
  have HU := Lib.hid hu
  have HB := Lib.hid hb
  obtain ⟨ok, hok⟩ : ∃ ok, bOk t m i j = ok := ⟨_, rfl⟩
  have HOK := Lib.hid hok
  cases ok
  · have hgn := loI_no hok
    rw [hg] at hgn
    subst hgn
    clear hv hu hb hok hg
    go_enter Tryd.func86, Tryd.ntmps86
    go_wp2_with fail
    refine (sOk_is W t _ HV.out m _ HU.out i j false HOK.out _ HB.out).mono ?_
    rintro e w1 ⟨rfl, b1⟩
    go_wp2
    go_ret
    exact ⟨rfl, b1⟩
  obtain ⟨hmk, hi0, hiq, hj0, hjd⟩ := bOk_iff.1 hok
  obtain ⟨a, rfl⟩ := Int.eq_ofNat_of_zero_le hi0
  obtain ⟨b, rfl⟩ := Int.eq_ofNat_of_zero_le hj0
  have ht := mkT hmk
  have HS := Lib.hid (shp_of hmk)
  have haq : a < t.length := by omega
  have hbd : b < wd t := by omega
  have hr6 : ∀ r ∈ t, r.length ≤ 100000 := fun r hr => by have := ht.len r hr; have := ht.w4; omega
  have h14 := ht.h4
  have HIS := Lib.hid (fun v => loI_eq (v := v) hmk haq hbd)
  have HG := Lib.hid hg
  have HPOS := Lib.hid ht.posF
  have HROW := Lib.hid (fun k hk => ht.row_le (k := k) hk)
  have HL := Lib.hid (show t.length ≤ 1000 by omega)
  have HR6 := Lib.hid hr6
  obtain ⟨Am, cm, hum, b1, b2, b3⟩ := hu
  have hml := (mk_parts.1 hmk).2.1
  obtain ⟨bm, om, M0, d0, hM, hbm, f0, y1, y2, y3⟩ := b3.at_ a (by omega)
  obtain ⟨bm2, om2, hM2, hbm2, f2⟩ := flag_at y3 b (by rw [HS.out.mr a haq]; exact hbd)
  subst hM hM2
  rw [HS.out.mr a haq] at f0 y1
  rw [hml] at hum
  subst hum
  obtain ⟨q, hq⟩ : ∃ q, t.length = q := ⟨_, rfl⟩
  obtain ⟨d, hd⟩ : ∃ d, wd t = d := ⟨_, rfl⟩
  rw [hq, hd] at HS HIS
  rw [hq] at HU haq hiq HPOS HROW ⊢
  rw [hd] at f0 hbd hjd HPOS HROW
  obtain ⟨fl, hfl⟩ : ∃ fl, hF m a b = fl := ⟨_, rfl⟩
  have f3 : W.cell? ⟨bm2, om2 + b, none⟩ = some (.bool fl) := by rw [← hfl]; exact f2
  have HFL := Lib.hid hfl
  have HQ := Lib.hid hq
  have HD := Lib.hid hd
  have haqn : (a : Int) < (q : Int) := by omega
  have hbdn : (b : Int) < (d : Int) := by omega
  have F0 := Lib.hid f0
  have F3 := Lib.hid f3
  clear f0 f3
  clear hv hb hok hg ht hmk hr6 h14 b1 b2 b3 y1 y2 y3 f2 hml hfl hi0 hj0 hiq hjd hq hd
  go_enter Tryd.func86, Tryd.ntmps86
  go_wp2_with fail
  refine (sOk_is W t _ HV.out m _ HU.out a b true HOK.out _ HB.out).mono ?_
  rintro e w1 ⟨rfl, b1⟩
  go_wp2_with fail
  refine (sCopy_is W t _ HV.out HL.out HR6.out w1 b1).mono ?_
  rintro e w2 ⟨xv, rfl, ho, h2⟩
  obtain ⟨g5, c5, gi5, ci5, hxv, z1, z2, z3, z4, z5, z6, z7⟩ := Mine.cell ho (i := a) (j := b) (by rw [HQ.out]; exact haq) (by rw [HS.out.tr a haq]; exact hbd)
  clear z1 z2 z3 z4 z5 z6 z7
  rw [HQ.out] at hxv
  subst hxv
  obtain ⟨B, hB⟩ : ∃ B, w1.heap.size = B := ⟨_, rfl⟩
  obtain ⟨T, hT⟩ : ∃ T, w2.heap.size = T := ⟨_, rfl⟩
  rw [hB, hT] at ho
  have hWB : W.heap.size ≤ B := by rw [← hB]; exact b1.size
  have HO := Lib.hid ho
  have HB2 := Lib.hid (show Below W.heap.size W w2 from b1.trans (h2.mono b1.size))
  have f0 : w2.cell? ⟨bm, om + a, none⟩ = some (.slice (some ⟨bm2, om2, none⟩) d d0) := (HB2.out.cell (p := ⟨bm, om + a, none⟩) hbm).trans F0.out
  have f3 : w2.cell? ⟨bm2, om2 + b, none⟩ = some (.bool fl) := (HB2.out.cell (p := ⟨bm2, om2 + b, none⟩) hbm2).trans F3.out
  clear ho h2 b1 hB hT
  go_wp2
  clear f0 f3
  go_loopg [10] 400 (fun k more wr => ∃ t', Mine wr B T (.slice (some ⟨g5, 0, none⟩) q c5) t' ∧ Shp t' m q d ∧ FitF q d (hF m) (cF t) (cF t') ∧ Below W.heap.size W wr ∧ ((more = .bool true ∧ fl = true ∧ (cF t' a b).toNat + 1 ≤ k) ∨ (more = .bool false ∧ ∀ z, FitF q d (hF m) (cF t) z → cF t' a b ≤ z a b)))
  case atStart =>
    refine ⟨t, HO.out, HS.out, FitF.refl HPOS.out, HB2.out, ?_⟩
    cases fl
    · exact .inr ⟨rfl, fun z hz => by rw [hz.off a b haq hbd HFL.out]; exact Int.le_refl _⟩
    · have h1 := cell_row HPOS.out haq hbd
      have h2 := HROW.out a haq
      have h3 := HPOS.out a b haq hbd
      exact .inl ⟨rfl, rfl, by omega⟩
  case round =>
    obtain ⟨t', hm, hs, hf, hbw, hst⟩ := hrel
    have HM := Lib.hid hm
    have HSH := Lib.hid hs
    have HF := Lib.hid hf
    have HBW := Lib.hid hbw
    obtain ⟨g6, c6, gi6, ci6, hxv, k1, k2, k3, k4, k5, k6, k7⟩ := Mine.cell hm (i := a) (j := b) (by rw [hs.tl]; exact haq) (by rw [hs.tr a haq]; exact hbd)
    injection hxv with q1 q2 q3
    injection q1 with q1
    injection q1 with q1 _ _
    subst q1 q3
    clear q2 k2 k3 k4 k6 k7
    rw [hs.tr a haq] at k1
    obtain ⟨y, hy⟩ : ∃ y, cF t' a b = y := ⟨_, rfl⟩
    have hyy : (t'.getD a []).getD b 0 = y := hy
    rw [hyy] at k5
    have HY := Lib.hid hy
    have hyb : 0 ≤ y ∧ y ≤ 396 := by
      rw [← hy]
      exact ⟨hf.pos a b haq hbd, Int.le_trans (fit_row hf haq hbd) (HROW.out a haq)⟩
    clear hm hs hbw hy hyy
    have HEND := Lib.hid (show (∀ z, FitF q d (hF m) (cF t) z → cF t' a b ≤ z a b) → g = y from fun hh => by
      rw [← HG.out, HIS.out _ ⟨⟨cF t', HF.out, rfl⟩, hh⟩]; exact HY.out)
    clear hf
    rcases hst with ⟨rfl, hfl, hk⟩ | ⟨rfl, hmax⟩
    · subst hfl
      rw [HY.out] at hk
      by_cases hp : 0 < y
      · skip
        go_wp2_with fail
        refine (sChange_is W t' _ m _ HU.out q d HSH.out a b haq hbd false HF.out.pos (fun k hk2 => by rw [HF.out.row k hk2]; exact HROW.out k hk2) HFL.out (by rw [HY.out]; show 0 ≤ y + (-1); omega) wr HBW.out B T hWB HM.out).mono ?_
        rintro e w5 ⟨r, t2, rfl, hm2, hs2, hb2, hr⟩
        have HM2 := Lib.hid hm2
        have HS2 := Lib.hid hs2
        have HB5 := Lib.hid hb2
        have HR5 := Lib.hid hr
        clear hm2 hs2 hb2 hr k1 k5 HEND
        cases r
        · go_wp2
          go_roundg (gk - 1)
          case measure => omega
          case rel =>
            rcases HR5.out with ⟨_, e5, par, c1, c2, c3⟩ | ⟨e5, _⟩
            · subst e5
              exact ⟨_, HM2.out, HS2.out, HF.out, HB5.out, .inr ⟨rfl, fun z hz => closed_low (x := cF t2) c1 haq hbd HF.out.pos c2 c3 ((HF.out.symm HPOS.out).trans hz)⟩⟩
            · cases e5
        · go_wp2
          go_roundg (gk - 1)
          case measure => omega
          case rel =>
            rcases HR5.out with ⟨e5, _⟩ | ⟨_, hf2, hv2⟩
            · cases e5
            · have hf3 := HF.out.trans hf2
              have h1 := Int.le_trans (fit_row hf3 haq hbd) (HROW.out a haq)
              have h2 := hf3.pos a b haq hbd
              rw [HY.out] at hv2
              have hv3 : cF t2 a b = y + (-1) := hv2
              exact ⟨t2, HM2.out, HS2.out, hf3, HB5.out, .inl ⟨rfl, trivial, by rw [hv3]; rw [hv3] at h1 h2; omega⟩⟩
      · have HE := Lib.hid (HEND.out fun z hz => by rw [HY.out]; have := hz.pos a b haq hbd; omega)
        clear HEND
        go_wp2
        go_ret
        exact ⟨by rw [HE.out]; rfl, HBW.out⟩
    · have HE := Lib.hid (HEND.out hmax)
      clear hmax HEND
      go_wp2
      go_ret
      exact ⟨by rw [HE.out]; rfl, HBW.out⟩
end Go.Proofs.YtobgceebolmfcaaDoor
