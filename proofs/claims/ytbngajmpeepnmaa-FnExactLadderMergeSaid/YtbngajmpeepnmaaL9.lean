import Derived.Test.YtbngajmpeepnmaaL8
namespace Go.Proofs.Ytbngajmpeepnmaa
open Go.RowKit
theorem res3 {fn : Func} {t u v : Tmp} (h : fn.results = #[.tmp t, .tmp u, .tmp v]) (tmps : Array Value) (P : Program) (w : World) :
    (results fn tmps).run P w = .ok (.tuple #[tmps.getD t undef, tmps.getD u undef, tmps.getD v undef]) w := by simp [results, h]
/-- A ladder, or none, and two numbers. -/
def DrawnT (x0 x1 y0 y1 : Int) (w : World) (e : Ending) (w' : World) : Prop :=
  ∃ ll A c, ∃ x y : Int, e = .returned (.tuple #[.slice A ll.length c, .int .i64 x, .int .i64 y]) ∧ LL w' w'.heap.size A ll ∧ ll.length ≤ 7 ∧ ll.length ≤ c ∧ c ≤ maxLen ∧ x0 ≤ x ∧ x ≤ x1 ∧ y0 ≤ y ∧ y ≤ y1 ∧ Below w.heap.size w w'
theorem drawT_end {w w1 w2 : World} {A : Option Addr} {c : Nat} {ll : List (List Int)} {x y x0 x1 y0 y1 : Int} (hb : Below w.heap.size w w1) (hg : w1.grownBy w2 (some w.heap.size)) (hR : w.heap.size < w1.heap.size) (ho : LL w2 w2.heap.size A ll) (hl : ll.length ≤ 7)
    (h1 : ll.length ≤ c) (h2 : c ≤ maxLen) (a : x0 ≤ x) (b : x ≤ x1) (p : y0 ≤ y) (q : y ≤ y1) : DrawnT x0 x1 y0 y1 w (.returned (.tuple #[.slice A ll.length c, .int .i64 x, .int .i64 y])) w2 :=
  ⟨ll, A, c, x, y, rfl, ho, hl, h1, h2, a, b, p, q, hb.trans (grown_old hg (Nat.le_refl _) (by omega))⟩
theorem OwnLL.kr {w w' : World} {B L R : Nat} {v : Value} {ll : List (List Int)} (h : OwnLL w B L v ll) (hg : w.grownBy w' (some R)) (hB : R < B) (hL : R < L) : OwnLL w' B L v ll :=
  h.kept hg (fun k hk => by injection hk; omega) (fun k hk => by injection hk; omega)
set_option maxHeartbeats 1000000 in
theorem drawC_any (A : Option Addr) (n c : Nat) (hnc : n ≤ c) (hn : n ≤ maxLen) (w : World) (hb : Bytes w w.heap.size A n) :
    Calls Try.prog 9 #[.slice A n c] w (DrawnT (-1) 8 0 4 w) := by
  go_enter Try.func9, Try.ntmps9
  go_wp2_with fail
  refine (l6Open_any A n c hnc hn _ hb).mono ?_
  rintro e w1 ⟨rfl, ⟨n', c', hr⟩, hb1⟩
  have hr1 : RdN w1 w.heap.size 0 := ⟨_, _, _, _, hr, Nat.le_refl _⟩
  clear hr hb
  have hR := hr1.lt
  have HB1 := Lib.hid hb1; clear hb1
  go_wp2_with fail
  refine (ladder_any w.heap.size 0 (by omega) _ hr1).mono ?_
  rintro e w2 ⟨v, ll, rfl, ho2, hl, hr2, hg2⟩
  obtain ⟨A2, c2, rfl, hc1, hc2, _⟩ := ho2.form
  go_wp2_with fail
  refine (pick_any (ll.length + 1) (by omega) (by omega) w.heap.size _ (by omega) _ hr2).mono ?_
  rintro e w3 ⟨x, rfl, x0, x1, hr3, hg3⟩
  go_wp2_with fail
  refine (pick_any 4 (by omega) (by omega) w.heap.size _ (by omega) _ hr3).mono ?_
  rintro e w4 ⟨y, rfl, y0, y1, hr4, hg4⟩
  go_wp2_with fail
  refine (pick_any 20 (by omega) (by omega) w.heap.size _ (by omega) _ hr4).mono ?_
  rintro e w5 ⟨z, rfl, z0, z1, hr5, hg5⟩
  have HO5 := Lib.hid (((ho2.kr hg3 hR hR).kr hg4 hR hR).kr hg5 hR hR)
  have HG5 := Lib.hid (grown_trans (grown_trans (grown_trans hg2 hg3) hg4) hg5)
  clear ho2 hg2 hg3 hg4 hg5 hr1 hr2 hr3 hr4
  have hR5 := hr5.lt
  rcases (show z = 0 ∨ z = 1 ∨ 1 < z by omega) with rfl | rfl | hz
  · go_wp2_with fail
    refine (pick_any 2 (by omega) (by omega) w.heap.size _ (by omega) _ (hr5.alloc _)).mono ?_
    rintro e w6 ⟨u, rfl, u0, u1, hr6, hg6⟩
    obtain ⟨u, rfl⟩ := Int.eq_ofNat_of_zero_le u0
    obtain ⟨t, ht, ht2⟩ := two_cell (new_block hg6 hR5) u (by omega)
    have HO6 := Lib.hid ((HO5.out.alloc _).kr hg6 hR hR)
    have HG6 := Lib.hid (grown_trans (grown_alloc HG5.out _) hg6)
    clear hg6 hr6 hr5 HO5 HG5
    go_wp2
    refine bodyPost_ret (res3 rfl _ _ _) rfl ?_
    exact drawT_end HB1.out HG6.out hR HO6.out.ll (by omega) hc1 hc2 (by omega) (by omega) y0 (by omega)
  · go_wp2
    refine bodyPost_ret (res3 rfl _ _ _) rfl ?_
    exact drawT_end HB1.out HG5.out hR HO5.out.ll (by omega) hc1 hc2 (by omega) (by omega) (by omega) (by omega)
  · go_wp2
    refine bodyPost_ret (res3 rfl _ _ _) rfl ?_
    exact drawT_end HB1.out HG5.out hR HO5.out.ll (by omega) hc1 hc2 (by omega) (by omega) y0 (by omega)
/-- A ladder, or none, and a level. -/
def DrawnG (w : World) (e : Ending) (w' : World) : Prop :=
  ∃ ll A c, ∃ x : Int, e = .returned (.tuple #[.slice A ll.length c, .int .i64 x]) ∧ LL w' w'.heap.size A ll ∧ ll.length ≤ 7 ∧ ll.length ≤ c ∧ c ≤ maxLen ∧ -1 ≤ x ∧ x ≤ 8 ∧ Below w.heap.size w w'
theorem drawM_end {w w1 w3 w9 : World} {A : Option Addr} {n c : Nat} {ll : List (List Int)} {x y : Int} (hb : Below w.heap.size w w1) (hg3 : w1.grownBy w3 (some w.heap.size)) (hg9 : w3.grownBy w9 (some w.heap.size)) (hR : w.heap.size < w1.heap.size) (hn : n = ll.length)
    (ho : ∀ w9, w3.grownBy w9 (some w.heap.size) → LL w9 w9.heap.size A ll) (hl : n ≤ 7) (h1 : n ≤ c) (h2 : c ≤ maxLen) (a : 0 ≤ x) (b : x ≤ 3) (p : -1 ≤ y) (q : y ≤ 4) : DrawnT 0 3 (-1) 4 w (.returned (.tuple #[.slice A n c, .int .i64 x, .int .i64 y])) w9 := by
  subst hn
  exact ⟨ll, A, c, x, y, rfl, ho _ hg9, hl, h1, h2, a, b, p, q, hb.trans (grown_old (grown_trans hg3 hg9) (Nat.le_refl _) (by omega))⟩
set_option maxHeartbeats 2000000 in
theorem drawM_any (A : Option Addr) (n c : Nat) (hnc : n ≤ c) (hn : n ≤ maxLen) (w : World) (hb : Bytes w w.heap.size A n) :
    Calls Try.prog 12 #[.slice A n c] w (DrawnT 0 3 (-1) 4 w) := by
  go_enter Try.func12, Try.ntmps12
  go_wp2_with fail
  refine (l6Open_any A n c hnc hn _ hb).mono ?_
  rintro e w1 ⟨rfl, ⟨n', c', hr⟩, hb1⟩
  have hr1 : RdN w1 w.heap.size 0 := ⟨_, _, _, _, hr, Nat.le_refl _⟩
  clear hr hb
  have hR := hr1.lt
  have HB1 := Lib.hid hb1; clear hb1
  go_wp2_with fail
  refine (ladder_any w.heap.size 0 (by omega) _ hr1).mono ?_
  rintro e w2 ⟨v, ll, rfl, ho2, hl, hr2, hg2⟩
  obtain ⟨A2, c2, rfl, hc1, hc2, _⟩ := ho2.form
  have HO2 := Lib.hid ho2
  have HG2 := Lib.hid hg2
  clear ho2 hg2 hr1
  have htail : ∃ q, q ≤ 9 ∧ RdN w2 w.heap.size q := ⟨_, by omega, hr2⟩
  obtain ⟨q, hq, hr2⟩ := htail
  by_cases h3 : ll.length = 3
  · have h3' : ((ll.length : Int) == 3) = true := by rw [beq_iff_eq]; omega
    have hc3 : 1 ≤ c2 := by omega
    have hc4 : (1 : Int) ≤ (c2 : Int) := by omega
    have HF := Lib.hid (show (1 : Nat) = (ll.take 1).length by simp; omega)
    have H3 := Lib.hid h3; clear h3
    go_wp2_with fail
    refine (pick_any 3 (by omega) (by omega) w.heap.size q (by omega) _ hr2).mono ?_
    rintro e w3 ⟨z, rfl, z0, z1, hr3, hg3⟩
    have HO3 := Lib.hid (HO2.out.kr hg3 hR hR)
    have HG3 := Lib.hid (grown_trans HG2.out hg3)
    clear HO2 HG2 hg3 hr2 h3'
    by_cases hz : 0 < z
    · go_wp2_with fail
      have HLL := Lib.hid (fun (w9 : World) (hg : w3.grownBy w9 (some w.heap.size)) => ((HO3.out.kr hg hR hR).ll.front 1))
      have hlen : 1 ≤ c2 := hc3
      have hl7 : (1 : Nat) ≤ 7 := by omega
      refine (pick_any 4 (by omega) (by omega) w.heap.size _ (by omega) _ hr3).mono ?_
      rintro e w4 ⟨x, rfl, x0, x1, hr4, hg4⟩
      go_wp2_with fail
      refine (pick_any 20 (by omega) (by omega) w.heap.size _ (by omega) _ hr4).mono ?_
      rintro e w5 ⟨y, rfl, y0, y1, hr5, hg5⟩
      have HG5 := Lib.hid (grown_trans hg4 hg5)
      clear hr3 hr4 hg4 hg5
      have hR5 := hr5.lt
      by_cases hy : y = 0
      · subst hy
        go_wp2
        go_region_with (first
          | (go_at_call 27
             refine (pick_any 2 (by omega) (by omega) w.heap.size (q + 3) (by omega) _ (show RdN ((w5.alloc (.cells #[.int .i64 (-1), .int .i64 4] 3)).drew) w.heap.size (q + 3) from hr5.alloc _)).mono ?_
             rintro e w9 ⟨u, rfl, u0, u1, hr9, hg9⟩
             obtain ⟨u, rfl⟩ := Int.eq_ofNat_of_zero_le u0
             obtain ⟨t, ht, ht2⟩ := two_cell (new_block (undrew hg9) hR5) u (by omega)
             have HG9 := Lib.hid (grown_trans HG5.out (grown_trans (World.grownBy_alloc w5 (.cells #[.int .i64 (-1), .int .i64 4] 3) _) (undrew hg9)))
             clear hg9 hr9)
          | (go_at_call 27
             refine (pick_any 2 (by omega) (by omega) w.heap.size (q + 3) (by omega) _ (show RdN w5.drew w.heap.size (q + 3) from hr5)).mono ?_
             rintro e w9 ⟨u, rfl, u0, u1, hr9, hg9⟩
             obtain ⟨u, rfl⟩ := Int.eq_ofNat_of_zero_le u0
             obtain ⟨t, ht, ht2⟩ := two_cell (heap_alloc_new w9 (.cells #[.int .i64 (-1), .int .i64 4] 3)) u (by omega)
             have HG9 := Lib.hid (grown_trans HG5.out (grown_alloc (undrew hg9) (.cells #[.int .i64 (-1), .int .i64 4] 3)))
             clear hg9 hr9))
        all_goals
          go_wp2
          refine bodyPost_ret (res3 rfl _ _ _) rfl ?_
          exact drawM_end HB1.out HG3.out HG9.out hR (by first | exact HF.out | rfl) HLL.out hl7 hlen hc2 x0 (by omega) (by omega) (by omega)
      · have hy' : (y == 0) = false := by rw [beq_eq_false_iff_ne]; exact hy
        go_wp2_with fail
        refine (pick_any 4 (by omega) (by omega) w.heap.size _ (by omega) _ hr5).mono ?_
        rintro e w9 ⟨t, rfl, t0, t1, hr9, hg9⟩
        have HG9 := Lib.hid (grown_trans HG5.out hg9)
        clear hg9 hr9 hr5
        go_wp2
        refine bodyPost_ret (res3 rfl _ _ _) rfl ?_
        exact drawM_end HB1.out HG3.out HG9.out hR (by first | exact HF.out | rfl) HLL.out hl7 hlen hc2 x0 (by omega) (by omega) (by omega)
    · go_wp2_with fail
      have HLL := Lib.hid (fun (w9 : World) (hg : w3.grownBy w9 (some w.heap.size)) => ((HO3.out.kr hg hR hR).ll))
      have HF := Lib.hid (rfl : ll.length = ll.length)
      have hlen : ll.length ≤ c2 := hc1
      have hl7 : ll.length ≤ 7 := by omega
      refine (pick_any 4 (by omega) (by omega) w.heap.size _ (by omega) _ hr3).mono ?_
      rintro e w4 ⟨x, rfl, x0, x1, hr4, hg4⟩
      go_wp2_with fail
      refine (pick_any 20 (by omega) (by omega) w.heap.size _ (by omega) _ hr4).mono ?_
      rintro e w5 ⟨y, rfl, y0, y1, hr5, hg5⟩
      have HG5 := Lib.hid (grown_trans hg4 hg5)
      clear hr3 hr4 hg4 hg5
      have hR5 := hr5.lt
      by_cases hy : y = 0
      · subst hy
        go_wp2
        go_region_with (first
          | (go_at_call 27
             refine (pick_any 2 (by omega) (by omega) w.heap.size (q + 3) (by omega) _ (show RdN ((w5.alloc (.cells #[.int .i64 (-1), .int .i64 4] 3)).drew) w.heap.size (q + 3) from hr5.alloc _)).mono ?_
             rintro e w9 ⟨u, rfl, u0, u1, hr9, hg9⟩
             obtain ⟨u, rfl⟩ := Int.eq_ofNat_of_zero_le u0
             obtain ⟨t, ht, ht2⟩ := two_cell (new_block (undrew hg9) hR5) u (by omega)
             have HG9 := Lib.hid (grown_trans HG5.out (grown_trans (World.grownBy_alloc w5 (.cells #[.int .i64 (-1), .int .i64 4] 3) _) (undrew hg9)))
             clear hg9 hr9)
          | (go_at_call 27
             refine (pick_any 2 (by omega) (by omega) w.heap.size (q + 3) (by omega) _ (show RdN w5.drew w.heap.size (q + 3) from hr5)).mono ?_
             rintro e w9 ⟨u, rfl, u0, u1, hr9, hg9⟩
             obtain ⟨u, rfl⟩ := Int.eq_ofNat_of_zero_le u0
             obtain ⟨t, ht, ht2⟩ := two_cell (heap_alloc_new w9 (.cells #[.int .i64 (-1), .int .i64 4] 3)) u (by omega)
             have HG9 := Lib.hid (grown_trans HG5.out (grown_alloc (undrew hg9) (.cells #[.int .i64 (-1), .int .i64 4] 3)))
             clear hg9 hr9))
        all_goals
          go_wp2
          refine bodyPost_ret (res3 rfl _ _ _) rfl ?_
          exact drawM_end HB1.out HG3.out HG9.out hR (by first | exact HF.out | rfl) HLL.out hl7 hlen hc2 x0 (by omega) (by omega) (by omega)
      · have hy' : (y == 0) = false := by rw [beq_eq_false_iff_ne]; exact hy
        go_wp2_with fail
        refine (pick_any 4 (by omega) (by omega) w.heap.size _ (by omega) _ hr5).mono ?_
        rintro e w9 ⟨t, rfl, t0, t1, hr9, hg9⟩
        have HG9 := Lib.hid (grown_trans HG5.out hg9)
        clear hg9 hr9 hr5
        go_wp2
        refine bodyPost_ret (res3 rfl _ _ _) rfl ?_
        exact drawM_end HB1.out HG3.out HG9.out hR (by first | exact HF.out | rfl) HLL.out hl7 hlen hc2 x0 (by omega) (by omega) (by omega)
  · have h3' : ((ll.length : Int) == 3) = false := by rw [beq_eq_false_iff_ne]; omega
    have H3 := Lib.hid h3; clear h3
    obtain ⟨w3, hw3⟩ : ∃ w3, w3 = w2 := ⟨_, rfl⟩
    rw [← hw3] at HO2 HG2 hr2
    rw [← hw3]
    clear hw3
    go_wp2_with fail
    have hr3 : RdN w3 w.heap.size (q + 1) := hr2.more (by omega)
    have HG3 := HG2
    have HLL := Lib.hid (fun (w9 : World) (hg : w3.grownBy w9 (some w.heap.size)) => ((HO2.out.kr hg hR hR).ll))
    have HF := Lib.hid (rfl : ll.length = ll.length)
    have hlen : ll.length ≤ c2 := hc1
    have hl7 : ll.length ≤ 7 := by omega
    clear h3' HG2 HO2 hr2
    refine (pick_any 4 (by omega) (by omega) w.heap.size _ (by omega) _ hr3).mono ?_
    rintro e w4 ⟨x, rfl, x0, x1, hr4, hg4⟩
    go_wp2_with fail
    refine (pick_any 20 (by omega) (by omega) w.heap.size _ (by omega) _ hr4).mono ?_
    rintro e w5 ⟨y, rfl, y0, y1, hr5, hg5⟩
    have HG5 := Lib.hid (grown_trans hg4 hg5)
    clear hr3 hr4 hg4 hg5
    have hR5 := hr5.lt
    by_cases hy : y = 0
    · subst hy
      go_wp2
      go_region_with (first
        | (go_at_call 27
           refine (pick_any 2 (by omega) (by omega) w.heap.size (q + 3) (by omega) _ (show RdN ((w5.alloc (.cells #[.int .i64 (-1), .int .i64 4] 3)).drew) w.heap.size (q + 3) from hr5.alloc _)).mono ?_
           rintro e w9 ⟨u, rfl, u0, u1, hr9, hg9⟩
           obtain ⟨u, rfl⟩ := Int.eq_ofNat_of_zero_le u0
           obtain ⟨t, ht, ht2⟩ := two_cell (new_block (undrew hg9) hR5) u (by omega)
           have HG9 := Lib.hid (grown_trans HG5.out (grown_trans (World.grownBy_alloc w5 (.cells #[.int .i64 (-1), .int .i64 4] 3) _) (undrew hg9)))
           clear hg9 hr9)
        | (go_at_call 27
           refine (pick_any 2 (by omega) (by omega) w.heap.size (q + 3) (by omega) _ (show RdN w5.drew w.heap.size (q + 3) from hr5)).mono ?_
           rintro e w9 ⟨u, rfl, u0, u1, hr9, hg9⟩
           obtain ⟨u, rfl⟩ := Int.eq_ofNat_of_zero_le u0
           obtain ⟨t, ht, ht2⟩ := two_cell (heap_alloc_new w9 (.cells #[.int .i64 (-1), .int .i64 4] 3)) u (by omega)
           have HG9 := Lib.hid (grown_trans HG5.out (grown_alloc (undrew hg9) (.cells #[.int .i64 (-1), .int .i64 4] 3)))
           clear hg9 hr9))
      all_goals
        go_wp2
        refine bodyPost_ret (res3 rfl _ _ _) rfl ?_
        exact drawM_end HB1.out HG3.out HG9.out hR (by first | exact HF.out | rfl) HLL.out hl7 hlen hc2 x0 (by omega) (by omega) (by omega)
    · have hy' : (y == 0) = false := by rw [beq_eq_false_iff_ne]; exact hy
      go_wp2_with fail
      refine (pick_any 4 (by omega) (by omega) w.heap.size _ (by omega) _ hr5).mono ?_
      rintro e w9 ⟨t, rfl, t0, t1, hr9, hg9⟩
      have HG9 := Lib.hid (grown_trans HG5.out hg9)
      clear hg9 hr9 hr5
      go_wp2
      refine bodyPost_ret (res3 rfl _ _ _) rfl ?_
      exact drawM_end HB1.out HG3.out HG9.out hR (by first | exact HF.out | rfl) HLL.out hl7 hlen hc2 x0 (by omega) (by omega) (by omega)
end Go.Proofs.Ytbngajmpeepnmaa
