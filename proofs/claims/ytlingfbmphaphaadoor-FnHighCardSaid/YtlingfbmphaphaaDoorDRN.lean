/- Draws of chapter 21. -/
import Derived.Test.YtlingfbmphaphaaDoorA1
import Derived.Test.YtlingfbmphaphaaDoorSRN
import Derived.Deep.RegionWith
namespace Go.Proofs.YtlingfbmphaphaaDoor
open Go.RowKit
theorem one_blk21 (w : World) (a : Array Value) (T : TypeId) : ∃ W3, W3 = w.alloc (.cells a T) ∧ Below w.heap.size w W3 ∧ W3.heap.size = w.heap.size + 1 ∧ W3.heap[w.heap.size]? = some (.cells a T (0, 0)) :=
  ⟨_, rfl, (Below.refl _ _).alloc (Nat.le_refl _) _, by simp, heap_alloc_new _ _⟩
/-- A number is drawn from a range. -/
def NumN (lo hi : Int) (R q : Nat) (w : World) (e : Ending) (w' : World) : Prop := ∃ x : Int, e = .returned (.int .i64 x) ∧ (lo ≤ x ∧ x ≤ hi) ∧ RdN w' R q ∧ w.grownBy w' (some R)
set_option maxHeartbeats 1000000 in
theorem lBase_any (R q : Nat) (hq : q + 2 < 1000000) (w : World) (hr : RdN w R q) : Calls Tryd.prog 31 #[.pointer (some ⟨R, 0, none⟩)] w (NumN 1 21 R (q + 2) w) := by
  have hR := hr.lt
  go_enter Tryd.func31, Tryd.ntmps31
  go_wp2_with fail
  refine (pick_any 24 (by omega) (by omega) R q (by omega) w hr).mono ?_
  rintro e w3 ⟨a, rfl, a0, a1, hr3, hg3⟩
  have hz3 := hg3.size
  clear hr
  have HG3 := Lib.hid hg3
  clear hg3
  by_cases hx9 : a = 0
  · subst hx9
    obtain ⟨wl, hwl, bl, hzl, kl⟩ := one_blk21 w3 #[.int .i64 (1), .int .i64 (21), .int .i64 (20)] 3
    have HWl := Lib.hid hwl.symm
    have hrl : RdN wl R (q + 1) := hr3.keep (bl.mono hr3.lt)
    have HGl := Lib.hid (grown_below HG3.out bl)
    have HKl := Lib.hid kl
    clear hwl bl hzl kl hr3 HG3
    go_wp2_with fail
    rw [HWl.out]
    refine (pick_any 3 (by omega) (by omega) R (q + 1) (by omega) wl hrl).mono ?_
    rintro e wm ⟨y9, rfl, y90, y91, hrm, hgm⟩
    have hRl : w3.heap.size ≠ R := by omega
    have km : wm.heap[w3.heap.size]? = some (.cells #[.int .i64 (1), .int .i64 (21), .int .i64 (20)] 3 (0, 0)) := (hgm.block _ (Array.getElem?_eq_some_iff.1 HKl.out).1 (fun e => by injection e; omega)).trans HKl.out
    have km0 : wm.cell? ⟨w3.heap.size, 0, none⟩ = some (.int .i64 (1)) := cell_of_row _ _ 0 _ _ _ km
    have km1 : wm.cell? ⟨w3.heap.size, 1, none⟩ = some (.int .i64 (21)) := cell_of_row _ _ 1 _ _ _ km
    have km2 : wm.cell? ⟨w3.heap.size, 2, none⟩ = some (.int .i64 (20)) := cell_of_row _ _ 2 _ _ _ km
    have HGm := Lib.hid (grown_trans HGl.out hgm)
    clear hgm km HGl HWl hrl
    rcases (show y9 = 0 ∨ y9 = 1 ∨ y9 = 2 by omega) with rfl | rfl | rfl
    all_goals
      go_wp2
      go_ret
      exact ⟨_, rfl, by omega, hrm.more (by omega), HGm.out⟩
  · have hx9' : (a == 0) = false := by rw [beq_eq_false_iff_ne]; exact hx9
    go_wp2_with fail
    refine (pick_any 9 (by omega) (by omega) R (q + 1) (by omega) w3 hr3).mono ?_
    rintro e wm ⟨y9, rfl, y90, y91, hrm, hgm⟩
    have HGm := Lib.hid (grown_trans HG3.out hgm)
    have hw9 : IntKind.i64.wrap (2 + y9) = 2 + y9 := IntWalk.i64_in _ (by omega)
    clear hgm HG3 hr3
    go_wp2
    go_ret
    exact ⟨_, rfl, by omega, hrm.more (by omega), HGm.out⟩
set_option maxHeartbeats 1000000 in
theorem lCount_any (R q : Nat) (hq : q + 2 < 1000000) (w : World) (hr : RdN w R q) : Calls Tryd.prog 30 #[.pointer (some ⟨R, 0, none⟩)] w (NumN (-1) 10001 R (q + 2) w) := by
  have hR := hr.lt
  go_enter Tryd.func30, Tryd.ntmps30
  go_wp2_with fail
  refine (pick_any 16 (by omega) (by omega) R q (by omega) w hr).mono ?_
  rintro e w3 ⟨a, rfl, a0, a1, hr3, hg3⟩
  have hz3 := hg3.size
  clear hr
  have HG3 := Lib.hid hg3
  clear hg3
  by_cases hx9 : a = 0
  · subst hx9
    obtain ⟨wl, hwl, bl, hzl, kl⟩ := one_blk21 w3 #[.int .i64 (-1), .int .i64 (10001), .int .i64 (10000), .int .i64 (9997)] 3
    have HWl := Lib.hid hwl.symm
    have hrl : RdN wl R (q + 1) := hr3.keep (bl.mono hr3.lt)
    have HGl := Lib.hid (grown_below HG3.out bl)
    have HKl := Lib.hid kl
    clear hwl bl hzl kl hr3 HG3
    go_wp2_with fail
    rw [HWl.out]
    refine (pick_any 4 (by omega) (by omega) R (q + 1) (by omega) wl hrl).mono ?_
    rintro e wm ⟨y9, rfl, y90, y91, hrm, hgm⟩
    have hRl : w3.heap.size ≠ R := by omega
    have km : wm.heap[w3.heap.size]? = some (.cells #[.int .i64 (-1), .int .i64 (10001), .int .i64 (10000), .int .i64 (9997)] 3 (0, 0)) := (hgm.block _ (Array.getElem?_eq_some_iff.1 HKl.out).1 (fun e => by injection e; omega)).trans HKl.out
    have km0 : wm.cell? ⟨w3.heap.size, 0, none⟩ = some (.int .i64 (-1)) := cell_of_row _ _ 0 _ _ _ km
    have km1 : wm.cell? ⟨w3.heap.size, 1, none⟩ = some (.int .i64 (10001)) := cell_of_row _ _ 1 _ _ _ km
    have km2 : wm.cell? ⟨w3.heap.size, 2, none⟩ = some (.int .i64 (10000)) := cell_of_row _ _ 2 _ _ _ km
    have km3 : wm.cell? ⟨w3.heap.size, 3, none⟩ = some (.int .i64 (9997)) := cell_of_row _ _ 3 _ _ _ km
    have HGm := Lib.hid (grown_trans HGl.out hgm)
    clear hgm km HGl HWl hrl
    rcases (show y9 = 0 ∨ y9 = 1 ∨ y9 = 2 ∨ y9 = 3 by omega) with rfl | rfl | rfl | rfl
    all_goals
      go_wp2
      go_ret
      exact ⟨_, rfl, by omega, hrm.more (by omega), HGm.out⟩
  · have hx9' : (a == 0) = false := by rw [beq_eq_false_iff_ne]; exact hx9
    by_cases hx8 : a = 1
    · subst hx8
      go_wp2_with fail
      refine (pick_any 200 (by omega) (by omega) R (q + 1) (by omega) w3 hr3).mono ?_
      rintro e wm ⟨y9, rfl, y90, y91, hrm, hgm⟩
      have HGm := Lib.hid (grown_trans HG3.out hgm)
      have hw9 : IntKind.i64.wrap (y9 * 47) = y9 * 47 := IntWalk.i64_in _ (by omega)
      clear hgm HG3 hr3
      go_wp2
      go_ret
      exact ⟨_, rfl, by omega, hrm.more (by omega), HGm.out⟩
    · have hx8' : (a == 1) = false := by rw [beq_eq_false_iff_ne]; exact hx8
      go_wp2_with fail
      refine (pick_any 60 (by omega) (by omega) R (q + 1) (by omega) w3 hr3).mono ?_
      rintro e wm ⟨y9, rfl, y90, y91, hrm, hgm⟩
      have HGm := Lib.hid (grown_trans HG3.out hgm)
      clear hgm HG3 hr3
      go_wp2
      go_ret
      exact ⟨_, rfl, by omega, hrm.more (by omega), HGm.out⟩
/-- A number and a base are drawn. -/
def DrawnXB (w : World) (e : Ending) (w' : World) : Prop := ∃ x b : Int, e = .returned (.tuple #[.int .i64 x, .int .i64 b]) ∧ (-1 ≤ x ∧ x ≤ 10001) ∧ (1 ≤ b ∧ b ≤ 21) ∧ Below w.heap.size w w'
theorem below_two {w w1 w2 w3 : World} (hb : Below w.heap.size w w1) (h2 : w1.grownBy w2 (some w.heap.size)) (h3 : w2.grownBy w3 (some w.heap.size)) : Below w.heap.size w w3 :=
  (hb.grown h2 hb.size (fun k e => by injection e with e; omega)).grown h3 (Nat.le_trans hb.size h2.size) (fun k e => by injection e with e; omega)
set_option maxHeartbeats 1000000 in
theorem dDown_any (A : Option Addr) (n c : Nat) (hnc : n ≤ c) (hn : n ≤ maxLen) (w : World) (hb : Bytes w w.heap.size A n) : Calls Tryd.prog 14 #[.slice A n c] w (DrawnXB w) := by
  go_enter Tryd.func14, Tryd.ntmps14
  go_wp2_with fail
  refine (l6Open_any A n c hnc hn _ hb).mono ?_
  rintro e w1 ⟨rfl, ⟨n', c', hr⟩, hb1⟩
  have hr1 : RdN w1 w.heap.size 0 := ⟨_, _, _, _, hr, Nat.le_refl _⟩
  have HB1 := Lib.hid hb1
  clear hr hb hb1
  go_wp2_with fail
  refine (lCount_any w.heap.size 0 (by omega) w1 hr1).mono ?_
  rintro e w2 ⟨x, rfl, ⟨hx0, hx1⟩, hr2, hg2⟩
  have HG2 := Lib.hid hg2
  clear hg2 hr1
  go_wp2_with fail
  refine (lBase_any w.heap.size _ (by omega) w2 hr2).mono ?_
  rintro e w3 ⟨b, rfl, ⟨hb0, hb1⟩, hr3, hg3⟩
  have HG3 := Lib.hid (grown_trans HG2.out hg3)
  have HB3 := Lib.hid (HB1.out.grown HG3.out HB1.out.size fun k e => by injection e with e; omega)
  clear hg3 hr2 HG2
  clear hr3 HG3
  go_wp2
  go_ret2
  exact ⟨x, b, rfl, ⟨hx0, hx1⟩, ⟨hb0, hb1⟩, HB3.out⟩
set_option maxHeartbeats 1000000 in
theorem dNear_any (A : Option Addr) (n c : Nat) (hnc : n ≤ c) (hn : n ≤ maxLen) (w : World) (hb : Bytes w w.heap.size A n) : Calls Tryd.prog 17 #[.slice A n c] w (DrawnXB w) := by
  go_enter Tryd.func17, Tryd.ntmps17
  go_wp2_with fail
  refine (dDown_any A n c hnc hn w hb).mono ?_
  rintro e w' ⟨x, b, rfl, h1, h2, h3⟩
  go_wp2
  go_ret2
  exact ⟨x, b, rfl, h1, h2, h3⟩
set_option maxHeartbeats 1000000 in
theorem dLow_any (A : Option Addr) (n c : Nat) (hnc : n ≤ c) (hn : n ≤ maxLen) (w : World) (hb : Bytes w w.heap.size A n) : Calls Tryd.prog 23 #[.slice A n c] w (DrawnXB w) := by
  go_enter Tryd.func23, Tryd.ntmps23
  go_wp2_with fail
  refine (l6Open_any A n c hnc hn _ hb).mono ?_
  rintro e w1 ⟨rfl, ⟨n', c', hr⟩, hb1⟩
  have hr1 : RdN w1 w.heap.size 0 := ⟨_, _, _, _, hr, Nat.le_refl _⟩
  have HB1 := Lib.hid hb1
  clear hr hb hb1
  go_wp2_with fail
  refine (lCount_any w.heap.size 0 (by omega) w1 hr1).mono ?_
  rintro e w2 ⟨x, rfl, ⟨hx0, hx1⟩, hr2, hg2⟩
  have HG2 := Lib.hid hg2
  clear hg2 hr1
  go_wp2_with fail
  refine (lBase_any w.heap.size _ (by omega) w2 hr2).mono ?_
  rintro e w3 ⟨b, rfl, ⟨hb0, hb1⟩, hr3, hg3⟩
  have HG3 := Lib.hid (grown_trans HG2.out hg3)
  have HB3 := Lib.hid (HB1.out.grown HG3.out HB1.out.size fun k e => by injection e with e; omega)
  clear hg3 hr2 HG2
  go_wp2_with fail
  refine (pick_any 6 (by omega) (by omega) w.heap.size _ (by omega) w3 hr3).mono ?_
  rintro e w4 ⟨a, rfl, a0, a1, hr4, hg4⟩
  have HB4 := Lib.hid (HB3.out.grown hg4 HB3.out.size fun k e => by injection e with e; omega)
  clear hr3 HG3 hg4 hr4
  by_cases ha : a = 0
  · subst ha
    go_wp2
    go_ret2
    exact ⟨x, b, rfl, ⟨hx0, hx1⟩, ⟨hb0, hb1⟩, HB4.out⟩
  · have ha1 : 0 < a := by omega
    obtain ⟨g, hg⟩ : ∃ g, rOk x b = g := ⟨_, rfl⟩
    have HG := Lib.hid hg
    go_wp2_with fail
    refine (sOk21_is x b g HG.out w4).mono ?_
    rintro e w' ⟨rfl, rfl⟩
    cases g
    · clear hg
      go_wp2
      go_ret2
      exact ⟨x, b, rfl, ⟨hx0, hx1⟩, ⟨hb0, hb1⟩, HB4.out⟩
    · obtain ⟨h0, h1, h2, h3⟩ := rOk_iff.1 hg
      obtain ⟨r, hr⟩ : ∃ r, x % b = r := ⟨_, rfl⟩
      have hrb := mod_bd (x := x) h2
      have hrx := down_le h0 h2
      have hrt := tmod_of h0 hr
      rw [hr] at hrb hrx
      obtain ⟨hr0, hrl⟩ := hrb
      have hbz : (b == 0) = false := by rw [beq_eq_false_iff_ne]; omega
      have hbn : ¬ b = 0 := by omega
      have hw1 : IntKind.i64.wrap (x - r) = x - r := IntWalk.i64_in _ (by omega)
      have HX := Lib.hid hrx
      clear hg hrx
      go_wp2
      go_ret2
      exact ⟨x - r, b, rfl, ⟨by have := HX.out; omega, by omega⟩, ⟨hb0, hb1⟩, HB4.out⟩
set_option maxHeartbeats 1000000 in
theorem dHigh_any (A : Option Addr) (n c : Nat) (hnc : n ≤ c) (hn : n ≤ maxLen) (w : World) (hb : Bytes w w.heap.size A n) : Calls Tryd.prog 26 #[.slice A n c] w (DrawnXB w) := by
  go_enter Tryd.func26, Tryd.ntmps26
  go_wp2_with fail
  refine (dLow_any A n c hnc hn w hb).mono ?_
  rintro e w' ⟨x, b, rfl, h1, h2, h3⟩
  go_wp2
  go_ret2
  exact ⟨x, b, rfl, h1, h2, h3⟩
/-- A number, a base and a lot are drawn. -/
def DrawnXBL (w : World) (e : Ending) (w' : World) : Prop := ∃ x b l : Int, e = .returned (.tuple #[.int .i64 x, .int .i64 b, .int .i64 l]) ∧ (-1 ≤ x ∧ x ≤ 10001) ∧ (1 ≤ b ∧ b ≤ 21) ∧ (-1 ≤ l ∧ l ≤ 21) ∧ Below w.heap.size w w'
theorem two_any21 {a b : Int} {t : TypeId} (n y : Nat) (hy : y < 2) : ∃ z, (z = a ∨ z = b) ∧ ∀ W : World, W.heap.size = n → (W.alloc (.cells #[.int .i64 a, .int .i64 b] t)).cell? ⟨n, y, none⟩ = some (.int .i64 z) := by
  rcases (show y = 0 ∨ y = 1 by omega) with rfl | rfl
  · exact ⟨a, .inl rfl, fun W h => by subst h; exact cell_of_row _ _ 0 _ _ _ (heap_alloc_new W _)⟩
  · exact ⟨b, .inr rfl, fun W h => by subst h; exact cell_of_row _ _ 1 _ _ _ (heap_alloc_new W _)⟩
set_option maxHeartbeats 1000000 in
theorem dDraw_any (A : Option Addr) (n c : Nat) (hnc : n ≤ c) (hn : n ≤ maxLen) (w : World) (hb : Bytes w w.heap.size A n) : Calls Tryd.prog 20 #[.slice A n c] w (DrawnXBL w) := by
  go_enter Tryd.func20, Tryd.ntmps20
  go_wp2_with fail
  refine (l6Open_any A n c hnc hn _ hb).mono ?_
  rintro e w1 ⟨rfl, ⟨n', c', hr⟩, hb1⟩
  have hr1 : RdN w1 w.heap.size 0 := ⟨_, _, _, _, hr, Nat.le_refl _⟩
  have HB1 := Lib.hid hb1
  clear hr hb hb1
  go_wp2_with fail
  refine (lCount_any w.heap.size 0 (by omega) w1 hr1).mono ?_
  rintro e w2 ⟨x, rfl, ⟨hx0, hx1⟩, hr2, hg2⟩
  have HG2 := Lib.hid hg2
  clear hg2 hr1
  go_wp2_with fail
  refine (lBase_any w.heap.size _ (by omega) w2 hr2).mono ?_
  rintro e w3 ⟨b, rfl, ⟨hb0, hb1⟩, hr3, hg3⟩
  have HG3 := Lib.hid (grown_trans HG2.out hg3)
  have HB3 := Lib.hid (HB1.out.grown HG3.out HB1.out.size fun k e => by injection e with e; omega)
  clear hg3 hr2 HG2
  go_wp2_with fail
  refine (pick_any 20 (by omega) (by omega) w.heap.size _ (by omega) w3 hr3).mono ?_
  rintro e w4 ⟨a, rfl, a0, a1, hr4, hg4⟩
  have HB4 := Lib.hid (HB3.out.grown hg4 HB3.out.size fun k e => by injection e with e; omega)
  have HR := Lib.hid hr4
  clear hr3 HG3 hg4 HB3 HB1
  by_cases ha : a = 0
  · subst ha
    have hR4 := HR.out.lt
    clear hr4
    go_wp2
    go_region_with (first
      | (go_at_call 35
         refine (pick_any 2 (by omega) (by omega) w.heap.size (0 + 2 + 2 + 1) (by omega) _ (show RdN ((w4.alloc (.cells #[.int .i64 (-1), .int .i64 b] 3)).drew) w.heap.size (0 + 2 + 2 + 1) from HR.out.alloc _)).mono ?_
         rintro e w9 ⟨y, rfl, y0, y1, hr9, hg9⟩
         obtain ⟨y, rfl⟩ := Int.eq_ofNat_of_zero_le y0
         obtain ⟨z, hz, hz2⟩ := two_cell (new_block (undrew hg9) hR4) y (by omega)
         have HB9 := Lib.hid ((HB4.out.alloc HB4.out.size _).grown (undrew hg9) (by simp; omega) fun k e => by injection e with e; omega)
         clear hg9 hr9)
      | (go_at_call 35
         refine (pick_any 2 (by omega) (by omega) w.heap.size (0 + 2 + 2 + 1) (by omega) _ (show RdN w4.drew w.heap.size (0 + 2 + 2 + 1) from HR.out)).mono ?_
         rintro e w9 ⟨y, rfl, y0, y1, hr9, hg9⟩
         obtain ⟨y, rfl⟩ := Int.eq_ofNat_of_zero_le y0
         obtain ⟨z, hz2, hzA⟩ := two_any21 (a := -1) (b := b) (t := 3) w9.heap.size y (by omega)
         have hz := hzA w9 rfl
         have HB8 := Lib.hid (HB4.out.grown (undrew hg9) HB4.out.size fun k e => by injection e with e; omega)
         have HB9 := Lib.hid (HB8.out.alloc HB8.out.size (.cells #[.int .i64 (-1), .int .i64 b] 3))
         clear hg9 hr9))
    all_goals
      go_wp2
      go_ret3
      exact ⟨x, b, z, rfl, ⟨hx0, hx1⟩, ⟨hb0, hb1⟩, by omega, HB9.out⟩
  · have ha' : (a == 0) = false := by rw [beq_eq_false_iff_ne]; exact ha
    clear hr4
    by_cases hb2 : b ≤ 1
    · obtain rfl : b = 1 := by omega
      go_wp2_with fail
      refine (pick_any 1 (by omega) (by omega) w.heap.size _ (by omega) w4 HR.out).mono ?_
      rintro e wm ⟨y9, rfl, y90, y91, hrm, hgm⟩
      have HBm := Lib.hid (HB4.out.grown hgm HB4.out.size fun k e => by injection e with e; omega)
      clear hgm hrm
      go_wp2
      go_ret3
      exact ⟨x, 1, y9, rfl, ⟨hx0, hx1⟩, ⟨hb0, hb1⟩, by omega, HBm.out⟩
    · have hb3 : 1 < b := by omega
      go_wp2_with fail
      refine (pick_any b (by omega) (by omega) w.heap.size _ (by omega) w4 HR.out).mono ?_
      rintro e wm ⟨y9, rfl, y90, y91, hrm, hgm⟩
      have HBm := Lib.hid (HB4.out.grown hgm HB4.out.size fun k e => by injection e with e; omega)
      clear hgm hrm
      go_wp2
      go_ret3
      exact ⟨x, b, y9, rfl, ⟨hx0, hx1⟩, ⟨hb0, hb1⟩, by omega, HBm.out⟩
end Go.Proofs.YtlingfbmphaphaaDoor
