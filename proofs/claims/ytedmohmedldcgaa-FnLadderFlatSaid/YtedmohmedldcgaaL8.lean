import Derived.Test.YtedmohmedldcgaaL7
namespace Go.Proofs.Ytedmohmedldcgaa
open Go.RowKit
theorem head_at (w : World) (g : Nat) (x : List Int) (cs : Array Value) (h : w.heap[g]? = some (.cells cs TN (0, 0))) (hcs : cs.toList = icells x) (hm : x.length ≤ 1000) (L : Nat) (no : Option Nat) (hL : L ≤ g) (hno : ∀ k, no = some k → k ≠ g) :
    Heads w L no [.slice (some ⟨g, 0, none⟩) x.length x.length] [x] := by
  refine ⟨rfl, fun i hi => ?_⟩
  obtain rfl : i = 0 := by simp at hi; exact hi
  refine ⟨some ⟨g, 0, none⟩, x.length, rfl, Nat.le_refl _, by simp only [maxLen]; omega, .inr ⟨g, 0, rfl, hL, (Array.getElem?_eq_some_iff.1 h).1, fun e => hno _ e.symm rfl, fun j u hu => ?_⟩⟩
  have h2 : (icells x)[j]? = some u := hu
  rw [Nat.zero_add, cell_of_row _ _ j cs TN (0, 0) h]
  rw [← hcs] at h2; simpa using h2
theorem alloc_at (w : World) (o : Obj) (k : Nat) (h : k = w.heap.size) : (w.alloc o).heap[k]? = some o := by subst h; exact heap_alloc_new w o
theorem keep1 {w : World} {o : Obj} {k : Nat} {x : Obj} (h : w.heap[k]? = some x) : (w.alloc o).heap[k]? = some x := by
  rw [Below.heap_alloc w o k (Array.getElem?_eq_some_iff.1 h).1]; exact h
theorem five_grown {w w' : World} {a b c d e : Obj} {R : Nat} (hg : (((((w.alloc a).alloc b).alloc c).alloc d).alloc e).grownBy w' (some R)) (hR : R < w.heap.size) :
    w'.heap[w.heap.size]? = some a ∧ w'.heap[w.heap.size + 1]? = some b ∧ w'.heap[w.heap.size + 2]? = some c ∧ w'.heap[w.heap.size + 3]? = some d ∧ w'.heap[w.heap.size + 4]? = some e := by
  have h0 := alloc_at w a _ rfl
  have h1 := alloc_at (w.alloc a) b (w.heap.size + 1) (by simp)
  have h2 := alloc_at ((w.alloc a).alloc b) c (w.heap.size + 2) (by simp)
  have h3 := alloc_at (((w.alloc a).alloc b).alloc c) d (w.heap.size + 3) (by simp)
  have h4 := alloc_at ((((w.alloc a).alloc b).alloc c).alloc d) e (w.heap.size + 4) (by simp)
  have f : ∀ k, w.heap.size ≤ k → k < w.heap.size + 5 → w'.heap[k]? = (((((w.alloc a).alloc b).alloc c).alloc d).alloc e).heap[k]? := fun k hk hk2 => hg.block k (by simp; omega) (fun h => by injection h; omega)
  exact ⟨(f _ (by omega) (by omega)).trans (keep1 (keep1 (keep1 (keep1 h0)))), (f _ (by omega) (by omega)).trans (keep1 (keep1 (keep1 h1))), (f _ (by omega) (by omega)).trans (keep1 (keep1 h2)), (f _ (by omega) (by omega)).trans (keep1 h3), (f _ (by omega) (by omega)).trans h4⟩
theorem four_at (w : World) (a b c d : Obj) : let W := (((w.alloc a).alloc b).alloc c).alloc d
    W.heap[w.heap.size]? = some a ∧ W.heap[w.heap.size + 1]? = some b ∧ W.heap[w.heap.size + 2]? = some c ∧ W.heap[w.heap.size + 3]? = some d := by
  have h0 := alloc_at w a _ rfl
  have h1 := alloc_at (w.alloc a) b (w.heap.size + 1) (by simp)
  have h2 := alloc_at ((w.alloc a).alloc b) c (w.heap.size + 2) (by simp)
  have h3 := alloc_at (((w.alloc a).alloc b).alloc c) d (w.heap.size + 3) (by simp)
  exact ⟨keep1 (keep1 (keep1 h0)), keep1 (keep1 h1), keep1 h2, h3⟩
theorem row_at {w : World} {g : Nat} {cs : Array Value} {T : TypeId} (h : w.heap[g]? = some (.cells cs T (0, 0))) : Row w (g + 1) (some ⟨g, 0, none⟩) cs.toList :=
  .inr ⟨_, 0, rfl, Nat.lt_succ_self _, fun j u hu => by rw [Nat.zero_add, cell_of_row _ _ j cs T (0, 0) h]; simpa using hu⟩
/-- A ladder, or none, somewhere in new memory. -/
def DrawnV (w : World) (e : Ending) (w' : World) : Prop :=
  ∃ ll A c, e = .returned (.slice A ll.length c) ∧ LL w' w'.heap.size A ll ∧ ll.length ≤ 7 ∧ ll.length ≤ c ∧ c ≤ maxLen ∧ Below w.heap.size w w'
theorem drawV_end {w w1 w2 : World} {v : Value} {ll : List (List Int)} {L : Nat} (hb : Below w.heap.size w w1) (hg : w1.grownBy w2 (some w.heap.size)) (hR : w.heap.size < w1.heap.size) (ho : OwnLL w2 w1.heap.size L v ll) (hl : ll.length ≤ 7) : DrawnV w (.returned v) w2 := by
  obtain ⟨A, c, rfl, h1, h2, h3⟩ := ho.form
  exact ⟨ll, A, c, rfl, h3, hl, h1, h2, hb.trans (grown_old hg (Nat.le_refl _) (by omega))⟩
set_option maxHeartbeats 1000000 in
theorem drawV_any (A : Option Addr) (n c : Nat) (hnc : n ≤ c) (hn : n ≤ maxLen) (w : World) (hb : Bytes w w.heap.size A n) :
    Calls Try.prog 14 #[.slice A n c] w (DrawnV w) := by
  go_enter Try.func14, Try.ntmps14
  go_wp2_with fail
  refine (l6Open_any A n c hnc hn _ hb).mono ?_
  rintro e w1 ⟨rfl, ⟨n', c', hr⟩, hb1⟩
  have hr1 : RdN w1 w.heap.size 0 := ⟨_, _, _, _, hr, Nat.le_refl _⟩
  clear hr hb
  have hR := hr1.lt
  have HB1 := Lib.hid hb1; clear hb1
  go_wp2_with fail
  refine (ladder_any w.heap.size 0 (by omega) _ hr1).mono ?_
  rintro e w2 ⟨v, ll, rfl, ho2, hl, hr2, hg2⟩
  go_wp2_with fail
  refine (pick_any 8 (by omega) (by omega) w.heap.size _ (by omega) _ hr2).mono ?_
  rintro e w3 ⟨x, rfl, x0, x1, hr3, hg3⟩
  have HO3 := Lib.hid (ho2.kept hg3 (fun k hk => by injection hk; omega) (fun k hk => by injection hk; omega))
  have HG3 := Lib.hid (grown_trans hg2 hg3)
  have hz3 := HG3.out.size
  clear ho2 hg2 hg3 hr1 hr2
  rcases (show x = 0 ∨ x = 1 ∨ 1 < x by omega) with rfl | rfl | hx
  · go_wp2_with fail
    refine (pick_any 4 (by omega) (by omega) w.heap.size _ (by omega) _ (((((hr3.alloc _).alloc _).alloc _).alloc _).alloc _)).mono ?_
    rintro e w4 ⟨y, rfl, y0, y1, hr4, hg4⟩
    obtain ⟨f0, f1, f2, f3, f4⟩ := five_grown hg4 (by omega)
    have HO4 := Lib.hid ((((((HO3.out.alloc _).alloc _).alloc _).alloc _).alloc _).kept hg4 (fun k hk => by injection hk; omega) (fun k hk => by injection hk; omega))
    have HG4 := Lib.hid (grown_trans (grown_alloc (grown_alloc (grown_alloc (grown_alloc (grown_alloc HG3.out _) _) _) _) _) hg4)
    have hz4 : w3.heap.size ≤ w4.heap.size := by have := hg4.size; simp at this; omega
    have hF0 := Lib.hid f0
    have hF1 := Lib.hid f1
    have hF2 := Lib.hid f2
    have hF3 := Lib.hid f3
    have hF4 := Lib.hid f4
    clear f0 f1 f2 f3 f4 hg4 hr4 hr3
    rcases (show y = 0 ∨ y = 1 ∨ y = 2 ∨ y = 3 by omega) with rfl | rfl | rfl | rfl
    · have c0 := cell_of_row w4 (w3.heap.size + 4) 0 _ _ _ hF4.out
      have c0' : w4.cell? ⟨w3.heap.size + 4, 0, none⟩ = some (.slice (some ⟨w3.heap.size, 0, none⟩) 4 4) := c0
      clear c0
      have HD := Lib.hid ((head_at w4 (w3.heap.size) [0, 0, 0, 0] #[.int .i64 0, .int .i64 0, .int .i64 0, .int .i64 0] hF0.out rfl (by simp) w1.heap.size v.ownBlock (by omega) (fun k hk => by have := (HO3.out.ob k hk).2; omega)).alloc (.cells #[.slice (some ⟨w3.heap.size, 0, none⟩) 4 4] TI))
      go_wp2_with (at_builtin
                   go_loud (refine appLL rfl (.tmp 13) (.tmp 23) rfl w1.heap.size w1.heap.size _ ll rfl (HO4.out.alloc _) (w4.heap.size + 1) (some ⟨w4.heap.size, 0, none⟩) 1 1 [.slice (some ⟨w3.heap.size, 0, none⟩) 4 4] [[0, 0, 0, 0]] rfl rfl (row_lit w4 _ _) HD.out (by simp; omega) (by simp; omega) ?_)
                   intro v5 w5 ho5 hg5)
      go_ret
      exact drawV_end HB1.out (grown_new (grown_alloc HG4.out _) hg5 (fun g hg => (HO4.out.ob g hg).1)) hR ho5 (by simp; omega)
    · have c0 := cell_of_row w4 (w3.heap.size + 4) 1 _ _ _ hF4.out
      have c0' : w4.cell? ⟨w3.heap.size + 4, 1, none⟩ = some (.slice (some ⟨w3.heap.size + 1, 0, none⟩) 4 4) := c0
      clear c0
      have HD := Lib.hid ((head_at w4 (w3.heap.size + 1) [0, 1, 1, 3] #[.int .i64 0, .int .i64 1, .int .i64 1, .int .i64 3] hF1.out rfl (by simp) w1.heap.size v.ownBlock (by omega) (fun k hk => by have := (HO3.out.ob k hk).2; omega)).alloc (.cells #[.slice (some ⟨w3.heap.size + 1, 0, none⟩) 4 4] TI))
      go_wp2_with (at_builtin
                   go_loud (refine appLL rfl (.tmp 13) (.tmp 23) rfl w1.heap.size w1.heap.size _ ll rfl (HO4.out.alloc _) (w4.heap.size + 1) (some ⟨w4.heap.size, 0, none⟩) 1 1 [.slice (some ⟨w3.heap.size + 1, 0, none⟩) 4 4] [[0, 1, 1, 3]] rfl rfl (row_lit w4 _ _) HD.out (by simp; omega) (by simp; omega) ?_)
                   intro v5 w5 ho5 hg5)
      go_ret
      exact drawV_end HB1.out (grown_new (grown_alloc HG4.out _) hg5 (fun g hg => (HO4.out.ob g hg).1)) hR ho5 (by simp; omega)
    · have c0 := cell_of_row w4 (w3.heap.size + 4) 2 _ _ _ hF4.out
      have c0' : w4.cell? ⟨w3.heap.size + 4, 2, none⟩ = some (.slice (some ⟨w3.heap.size + 2, 0, none⟩) 4 4) := c0
      clear c0
      have HD := Lib.hid ((head_at w4 (w3.heap.size + 2) [1, 1, 2, 3] #[.int .i64 1, .int .i64 1, .int .i64 2, .int .i64 3] hF2.out rfl (by simp) w1.heap.size v.ownBlock (by omega) (fun k hk => by have := (HO3.out.ob k hk).2; omega)).alloc (.cells #[.slice (some ⟨w3.heap.size + 2, 0, none⟩) 4 4] TI))
      go_wp2_with (at_builtin
                   go_loud (refine appLL rfl (.tmp 13) (.tmp 23) rfl w1.heap.size w1.heap.size _ ll rfl (HO4.out.alloc _) (w4.heap.size + 1) (some ⟨w4.heap.size, 0, none⟩) 1 1 [.slice (some ⟨w3.heap.size + 2, 0, none⟩) 4 4] [[1, 1, 2, 3]] rfl rfl (row_lit w4 _ _) HD.out (by simp; omega) (by simp; omega) ?_)
                   intro v5 w5 ho5 hg5)
      go_ret
      exact drawV_end HB1.out (grown_new (grown_alloc HG4.out _) hg5 (fun g hg => (HO4.out.ob g hg).1)) hR ho5 (by simp; omega)
    · have c0 := cell_of_row w4 (w3.heap.size + 4) 3 _ _ _ hF4.out
      have c0' : w4.cell? ⟨w3.heap.size + 4, 3, none⟩ = some (.slice (some ⟨w3.heap.size + 3, 0, none⟩) 4 4) := c0
      clear c0
      have HD := Lib.hid ((head_at w4 (w3.heap.size + 3) [0, 0, 2, 4] #[.int .i64 0, .int .i64 0, .int .i64 2, .int .i64 4] hF3.out rfl (by simp) w1.heap.size v.ownBlock (by omega) (fun k hk => by have := (HO3.out.ob k hk).2; omega)).alloc (.cells #[.slice (some ⟨w3.heap.size + 3, 0, none⟩) 4 4] TI))
      go_wp2_with (at_builtin
                   go_loud (refine appLL rfl (.tmp 13) (.tmp 23) rfl w1.heap.size w1.heap.size _ ll rfl (HO4.out.alloc _) (w4.heap.size + 1) (some ⟨w4.heap.size, 0, none⟩) 1 1 [.slice (some ⟨w3.heap.size + 3, 0, none⟩) 4 4] [[0, 0, 2, 4]] rfl rfl (row_lit w4 _ _) HD.out (by simp; omega) (by simp; omega) ?_)
                   intro v5 w5 ho5 hg5)
      go_ret
      exact drawV_end HB1.out (grown_new (grown_alloc HG4.out _) hg5 (fun g hg => (HO4.out.ob g hg).1)) hR ho5 (by simp; omega)
  · have HO4 := Lib.hid ((((HO3.out.alloc (.cells #[.int .i64 0, .int .i64 0, .int .i64 0, .int .i64 0] TN)).alloc (.cells #[.int .i64 0, .int .i64 0, .int .i64 0, .int .i64 0] TN)).alloc (.cells #[.int .i64 0, .int .i64 0, .int .i64 0, .int .i64 0] TN)).alloc (.cells #[.slice (some ⟨w3.heap.size, 0, none⟩) 4 4, .slice (some ⟨w3.heap.size + 1, 0, none⟩) 4 4, .slice (some ⟨w3.heap.size + 2, 0, none⟩) 4 4] TI))
    obtain ⟨f0, f1, f2, f3⟩ := four_at w3 (.cells #[.int .i64 0, .int .i64 0, .int .i64 0, .int .i64 0] TN) (.cells #[.int .i64 0, .int .i64 0, .int .i64 0, .int .i64 0] TN) (.cells #[.int .i64 0, .int .i64 0, .int .i64 0, .int .i64 0] TN) (.cells #[.slice (some ⟨w3.heap.size, 0, none⟩) 4 4, .slice (some ⟨w3.heap.size + 1, 0, none⟩) 4 4, .slice (some ⟨w3.heap.size + 2, 0, none⟩) 4 4] TI)
    have hno : ∀ i k, v.ownBlock = some k → k ≠ w3.heap.size + i := fun i k hk => by have := (HO3.out.ob k hk).2; omega
    have HD := Lib.hid (((head_at _ (w3.heap.size) [0, 0, 0, 0] #[.int .i64 0, .int .i64 0, .int .i64 0, .int .i64 0] f0 rfl (by simp) w1.heap.size v.ownBlock (by omega) (hno 0)).app (head_at _ (w3.heap.size + 1) [0, 0, 0, 0] #[.int .i64 0, .int .i64 0, .int .i64 0, .int .i64 0] f1 rfl (by simp) w1.heap.size v.ownBlock (by omega) (hno 1))).app (head_at _ (w3.heap.size + 2) [0, 0, 0, 0] #[.int .i64 0, .int .i64 0, .int .i64 0, .int .i64 0] f2 rfl (by simp) w1.heap.size v.ownBlock (by omega) (hno 2)))
    have HRW := Lib.hid (row_at f3)
    clear f0 f1 f2 f3 hno
    go_wp2_with (at_builtin
                 go_loud (refine appLL rfl (.tmp 27) (.tmp 31) rfl w1.heap.size w1.heap.size _ ll rfl HO4.out _ (some ⟨w3.heap.size + 3, 0, none⟩) 3 3 [.slice (some ⟨w3.heap.size, 0, none⟩) 4 4, .slice (some ⟨w3.heap.size + 1, 0, none⟩) 4 4, .slice (some ⟨w3.heap.size + 2, 0, none⟩) 4 4] [[0, 0, 0, 0], [0, 0, 0, 0], [0, 0, 0, 0]] rfl rfl HRW.out HD.out (by simp; omega) (by simp; omega) ?_)
                 intro v5 w5 ho5 hg5)
    go_ret
    exact drawV_end HB1.out (grown_new (grown_alloc (grown_alloc (grown_alloc (grown_alloc HG3.out _) _) _) _) hg5 (fun g hg => (HO3.out.ob g hg).1)) hR ho5 (by simp; omega)
  · go_wp2
    go_ret
    exact drawV_end HB1.out HG3.out hR HO3.out (by omega)
end Go.Proofs.Ytedmohmedldcgaa
