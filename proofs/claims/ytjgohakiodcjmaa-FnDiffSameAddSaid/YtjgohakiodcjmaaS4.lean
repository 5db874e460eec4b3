import Derived.Test.YtjgohakiodcjmaaS2
set_option maxRecDepth 100000
namespace Go.Proofs.Ytjgohakiodcjmaa
open Go.RowKit
/-- People and a number about their indices, somewhere in new memory. -/
def DrawnW (w : World) (e : Ending) (w' : World) : Prop :=
  ∃ l A c, ∃ k : Int, e = .returned (.tuple #[.slice A l.length c, .int .i64 k]) ∧ Row w' w'.heap.size A (pcells l) ∧ l.length ≤ 8 ∧ l.length ≤ c ∧ c ≤ maxLen ∧ (∀ p ∈ l, Bd p) ∧ -1 ≤ k ∧ k ≤ l.length ∧ Below w.heap.size w w'
theorem drawW_end {w w1 w2 w3 : World} {A : Option Addr} {c : Nat} {l : List Pn} {k : Int} (hb : Below w.heap.size w w1) (hg : w1.grownBy w2 (some w.heap.size)) (hg3 : w2.grownBy w3 (some w.heap.size)) (hR : w.heap.size < w1.heap.size)
    (ho : Own w2 w1.heap.size (.slice A l.length c) l) (hl : l.length ≤ 8) (hlc : l.length ≤ c) (hc : c ≤ maxLen) (hp : ∀ p ∈ l, Bd p) (k0 : -1 ≤ k) (k1 : k ≤ l.length) :
    DrawnW w (.returned (.tuple #[.slice A l.length c, .int .i64 k])) w3 :=
  ⟨l, A, c, k, rfl, (ho.kept hg3 hR).row, hl, hlc, hc, hp, k0, k1, hb.trans (grown_old (grown_trans hg hg3) (Nat.le_refl _) (by omega))⟩
set_option maxHeartbeats 4000000 in
theorem drawWithout_any (A : Option Addr) (n c : Nat) (hnc : n ≤ c) (hn : n ≤ maxLen) (w : World) (hb : Bytes w w.heap.size A n) :
    Calls Try.prog 18 #[.slice A n c] w (DrawnW w) := by
  go_enter Try.func18, Try.ntmps18
  go_wp2_with fail
  refine (l6Open_any A n c hnc hn _ hb).mono ?_
  rintro e w1 ⟨rfl, ⟨n', c', hr⟩, hb1⟩
  have hr1 : RdN w1 w.heap.size 0 := ⟨_, _, _, _, hr, Nat.le_refl _⟩
  clear hr hb
  have hR := hr1.lt
  have HB1 := Lib.hid hb1; clear hb1
  go_wp2_with fail
  refine (people_any 8 (by omega) w.heap.size 0 (by omega) _ hr1).mono ?_
  rintro e w2 ⟨l, v, rfl, ho2, hl, hbd, hr2, hg2⟩
  have HBD := Lib.hid hbd; clear hbd
  obtain ⟨A2, c2, rfl, hc1, hc2, _, _⟩ := ho2.form
  have HO := Lib.hid ho2
  have HG2 := Lib.hid hg2; clear hg2 ho2 hr1
  have hR2 := hr2.lt
  have hw12 : w1.heap.size ≤ w2.heap.size := HG2.out.size
  obtain ⟨q, hq, hr2⟩ : ∃ q, q < 1000 ∧ RdN w2 w.heap.size q := ⟨_, by omega, hr2⟩
  by_cases hl0 : l.length = 0
  · obtain rfl : l = [] := List.eq_nil_of_length_eq_zero hl0
    clear hl0
    go_wp2
    go_region_with (first
      | (go_at_call 37
         refine (pick_any 2 (by omega) (by omega) w.heap.size (q) (by omega) _ (show RdN ((w2.alloc (.cells #[.int .i64 (-1), .int .i64 0] 3)).drew) w.heap.size (q) from hr2.alloc _)).mono ?_
         rintro e w9 ⟨y, rfl, y0, y1, hr9, hg9⟩
         obtain ⟨y, rfl⟩ := Int.eq_ofNat_of_zero_le y0
         obtain ⟨z, hz, hz2⟩ := two_cell (new_block (undrew hg9) hr2.lt) y (by omega)
         have HG9 := Lib.hid (grown_trans (World.grownBy_alloc w2 (.cells #[.int .i64 (-1), .int .i64 0] 3) _) (undrew hg9))
         clear hg9 hr9)
      | (go_at_call 37
         refine (pick_any 2 (by omega) (by omega) w.heap.size (q) (by omega) _ (show RdN w2.drew w.heap.size (q) from hr2)).mono ?_
         rintro e w9 ⟨y, rfl, y0, y1, hr9, hg9⟩
         obtain ⟨y, rfl⟩ := Int.eq_ofNat_of_zero_le y0
         obtain ⟨z, hz, hz2⟩ := two_cell (heap_alloc_new w9 (.cells #[.int .i64 (-1), .int .i64 0] 3)) y (by omega)
         have HG9 := Lib.hid (grown_alloc (undrew hg9) (.cells #[.int .i64 (-1), .int .i64 0] 3))
         clear hg9 hr9))
    all_goals
      go_wp2
      go_ret2
      exact drawW_end HB1.out HG2.out HG9.out hR HO.out hl hc1 hc2 HBD.out (by omega) (by first | omega | (simp; omega))
  · have hl1 : 0 < l.length := by omega
    have hl2 : (0 : Int) < (l.length : Int) := by omega
    have hl3 : ((l.length : Int) == 0) = false := by rw [beq_eq_false_iff_ne]; omega
    clear hl0
    go_wp2_with fail
    refine (pick_any 16 (by omega) (by omega) w.heap.size q (by omega) _ hr2).mono ?_
    rintro e w3 ⟨x, rfl, x0, x1, hr3, hg3⟩
    have HG3 := Lib.hid hg3; clear hg3 hr2
    have hR3 := hr3.lt
    by_cases hx : x = 0
    · subst hx
      go_wp2
      go_region_with (first
        | (go_at_call 37
           refine (pick_any 2 (by omega) (by omega) w.heap.size (q + 1) (by omega) _ (show RdN ((w3.alloc (.cells #[.int .i64 (-1), .int .i64 l.length] 3)).drew) w.heap.size (q + 1) from hr3.alloc _)).mono ?_
           rintro e w9 ⟨y, rfl, y0, y1, hr9, hg9⟩
           obtain ⟨y, rfl⟩ := Int.eq_ofNat_of_zero_le y0
           obtain ⟨z, hz, hz2⟩ := two_cell (new_block (undrew hg9) hr3.lt) y (by omega)
           have HG9 := Lib.hid (grown_trans HG3.out (grown_trans (World.grownBy_alloc w3 (.cells #[.int .i64 (-1), .int .i64 l.length] 3) _) (undrew hg9)))
           clear hg9 hr9)
        | (go_at_call 37
           refine (pick_any 2 (by omega) (by omega) w.heap.size (q + 1) (by omega) _ (show RdN w3.drew w.heap.size (q + 1) from hr3)).mono ?_
           rintro e w9 ⟨y, rfl, y0, y1, hr9, hg9⟩
           obtain ⟨y, rfl⟩ := Int.eq_ofNat_of_zero_le y0
           obtain ⟨z, hz, hz2⟩ := two_cell (heap_alloc_new w9 (.cells #[.int .i64 (-1), .int .i64 l.length] 3)) y (by omega)
           have HG9 := Lib.hid (grown_trans HG3.out (grown_alloc (undrew hg9) (.cells #[.int .i64 (-1), .int .i64 l.length] 3)))
           clear hg9 hr9))
      all_goals
        go_wp2
        go_ret2
        exact drawW_end HB1.out HG2.out HG9.out hR HO.out hl hc1 hc2 HBD.out (by omega) (by first | omega | (simp; omega))
    · go_wp2_with fail
      refine (pick_any l.length (by omega) (by omega) w.heap.size (q + 1) (by omega) _ hr3).mono ?_
      rintro e w4 ⟨y, rfl, y0, y1, hr4, hg4⟩
      have HG9 := Lib.hid (grown_trans HG3.out hg4)
      clear hg4 hr4 hr3
      go_wp2
      go_ret2
      exact drawW_end HB1.out HG2.out HG9.out hR HO.out hl hc1 hc2 HBD.out (by omega) (by omega)
end Go.Proofs.Ytjgohakiodcjmaa
