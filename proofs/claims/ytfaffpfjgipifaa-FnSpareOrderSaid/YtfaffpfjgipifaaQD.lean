/- Contributions: going down in a heap. -/
import Derived.Test.YtfaffpfjgipifaaQH
namespace Go.Proofs.Ytfaffpfjgipifaa
open Go.RowKit
section
variable {w w' : World} {B T p : Nat} {v : Value} {a : List Int}
theorem less_at (h : HpV w B T p v a) (i j : Nat) (x y : Int) (hx : x = i) (hy : y = j) (hi : i < a.length) (hj : j < a.length) (hl : a.length ≤ 1000) (g : Bool) (hg : decide (at0 a j < at0 a i) = g) :
    Calls Try.prog 64 #[v, .int .i64 x, .int .i64 y] w (QR (.bool g) w) := by
  subst hx hy; exact less_any h i j hi hj hl g hg
theorem swap_at (h : HpV w B T p v a) (i j : Nat) (x y : Int) (hx : x = i) (hy : y = j) (hi : i < a.length) (hj : j < a.length) (hl : a.length ≤ 1000) :
    Calls Try.prog 67 #[v, .int .i64 x, .int .i64 y] w (Swapped B T p v (swp a i j) w) := by
  subst hx hy; exact swap_any h i j hi hj hl
/-- The end of going down. -/
def Downed (B T p : Nat) (v : Value) (a : List Int) (n : Nat) (w : World) (e : Ending) (w' : World) : Prop :=
  (∃ g, e = .returned (.bool g)) ∧ Upd B T p v a (fun b => heapN b n ∧ at0 b n = at0 a n) w w'
set_option maxRecDepth 100000 in
set_option maxHeartbeats 2000000 in
theorem down_any (h : HpV w B T p v a) (n : Nat) (hn : n < a.length) (hl : a.length ≤ 1000) (hu : heapD a n 0) :
    Calls Try.prog 44 #[.iface TPH (pt p), .int .i64 0, .int .i64 n] w (Downed B T p v a n w) := by
  have HL := Lib.hid hl
  have HN := Lib.hid hn
  have hn9 : n ≤ 1000 := by omega
  have HH := Lib.hid h
  have HU := Lib.hid hu
  clear hn h hu hl
  go_enter Try.func44, Try.ntmps44
  go_wp2
  go_loopw [7] (fun vj wr => ∃ (j : Nat) (b : List Int), vj = .int .i64 j ∧ j ≤ n ∧ HpV wr B T p v b ∧ heapD b n j ∧ b.Perm a ∧ at0 b n = at0 a n ∧ Within w wr B T) (fun vj _ => n - (intOf vj).toNat)
  case atStart => exact ⟨0, a, rfl, Nat.zero_le _, HH.out, HU.out, List.Perm.refl _, rfl, Within.refl _ _ _⟩
  case round =>
    obtain ⟨i, b, rfl, hin, hb1, hb2, hb3, hb5, hb4⟩ := hrel
    have H1 := Lib.hid hb1
    have H2 := Lib.hid hb2
    have H3 := Lib.hid hb3
    have H4 := Lib.hid hb4
    have H5 := Lib.hid hb5
    have HLB := Lib.hid (show n < b.length by rw [hb3.length_eq]; exact HN.out)
    have HL9 := Lib.hid (show b.length ≤ 1000 by rw [hb3.length_eq]; exact HL.out)
    have mL0 := meth_less hb1
    have mL : ∀ q, Sem.run Try.prog (method 186 TPH (pt p) "Less") (wr.drewN q) = .ok (64, v) (wr.drewN q) := fun q => meth_less (hb1.draws q)
    have mS : ∀ q, Sem.run Try.prog (method 186 TPH (pt p) "Swap") (wr.drewN q) = .ok (67, v) (wr.drewN q) := fun q => meth_swap (hb1.draws q)
    clear hb1 hb2 hb3 hb4 hb5
    by_cases h1 : n ≤ 2 * i + 1
    · have h1' : (n : Int) ≤ 2 * (i : Int) + 1 := by omega
      clear mL0 mL mS
      go_wp2
      go_ret
      exact ⟨⟨_, rfl⟩, H4.out, b, H1.out, H3.out, heapD_stop H2.out (fun k _ _ _ => by omega), H5.out⟩
    · have hj1 : 2 * i + 1 < n := by omega
      have h1' : ¬ (n : Int) ≤ 2 * (i : Int) + 1 := by omega
      by_cases h2 : 2 * i + 2 < n
      · have h2' : (2 * (i : Int) + 1 + 1) < (n : Int) := by omega
        by_cases hg : at0 b (2 * i + 1) < at0 b (2 * i + 2)
        · have LA := Lib.hid (fun (x y : Int) (hx : x = (2 * i + 2 : Nat)) (hy : y = (2 * i + 1 : Nat)) => less_at H1.out (2 * i + 2) (2 * i + 1) x y hx hy (by have := HLB.out; omega) (by have := HLB.out; omega) HL9.out true (by simpa using hg))
          by_cases hk : at0 b i < at0 b (2 * i + 2)
          · have hk' : decide (at0 b i < at0 b (2 * i + 2)) = true := by simpa using hk
            have LB := Lib.hid (fun q (x y : Int) (hx : x = (2 * i + 2 : Nat)) (hy : y = (i : Nat)) => less_at (H1.out.draws q) (2 * i + 2) i x y hx hy (by have := HLB.out; omega) (by have := HLB.out; omega) HL9.out true hk')
            have LB0 := Lib.hid (fun (x y : Int) (hx : x = (2 * i + 2 : Nat)) (hy : y = (i : Nat)) => less_at H1.out (2 * i + 2) i x y hx hy (by have := HLB.out; omega) (by have := HLB.out; omega) HL9.out true hk')
            have HK := Lib.hid hk
            clear hk hk'
            have HG := Lib.hid hg
            clear hg LB0
            go_wp2_with (first
              | (go_at_call 64; (with_reducible refine (LA.out _ _ (by omega) (by omega)).mono ?_); rintro e w' ⟨rfl, q, rfl⟩)
              | (go_at_call 64; (with_reducible refine (LB.out _ _ _ (by omega) (by omega)).mono ?_); rintro e w' ⟨rfl, q2, rfl⟩)
              | (go_at_call 67; (with_reducible refine (swap_at (H1.out.draws _) i (2 * i + 2) _ _ (by omega) (by omega) (by have := HLB.out; omega) (by have := HLB.out; omega) HL9.out).mono ?_); rintro e w' ⟨rfl, hs, hbw⟩; have HS := Lib.hid hs; have HB := Lib.hid hbw; clear hs hbw))
            clear LA mL0 mL mS
            go_roundw
            case rel => exact ⟨2 * i + 2, swp b i (2 * i + 2), by go_num, by omega, HS.out, heapD_step H2.out (by have := HLB.out; omega) (by omega) (by omega) (by omega) HK.out (fun k _ _ hk2 => by
                have h3 : k = 2 * i + 1 ∨ k = 2 * i + 2 := by omega
                rcases h3 with rfl | rfl
                · have := HG.out; have := HK.out; omega
                · have := HG.out; have := HK.out; omega), (swp_perm (by have := HLB.out; omega) (by have := HLB.out; omega)).trans H3.out, by rw [swp_at (by have := HLB.out; omega) (by have := HLB.out; omega), if_neg (by omega), if_neg (by omega)]; exact H5.out, wth_trans H4.out (wth_trans (wth_draw (Within.refl _ _ _) _) HB.out)⟩
            case measure => simp [intOf]; omega
          · have hk' : decide (at0 b i < at0 b (2 * i + 2)) = false := by simpa using hk
            have LB := Lib.hid (fun q (x y : Int) (hx : x = (2 * i + 2 : Nat)) (hy : y = (i : Nat)) => less_at (H1.out.draws q) (2 * i + 2) i x y hx hy (by have := HLB.out; omega) (by have := HLB.out; omega) HL9.out false hk')
            have LB0 := Lib.hid (fun (x y : Int) (hx : x = (2 * i + 2 : Nat)) (hy : y = (i : Nat)) => less_at H1.out (2 * i + 2) i x y hx hy (by have := HLB.out; omega) (by have := HLB.out; omega) HL9.out false hk')
            have HK := Lib.hid hk
            clear hk hk'
            have HG := Lib.hid hg
            clear hg LB0
            go_wp2_with (first
              | (go_at_call 64; (with_reducible refine (LA.out _ _ (by omega) (by omega)).mono ?_); rintro e w' ⟨rfl, q, rfl⟩)
              | (go_at_call 64; (with_reducible refine (LB.out _ _ _ (by omega) (by omega)).mono ?_); rintro e w' ⟨rfl, q2, rfl⟩))
            go_ret
            exact ⟨⟨_, rfl⟩, wth_draw H4.out _, b, H1.out.draws _, H3.out, heapD_stop H2.out (fun k _ _ hk2 => by
                have h3 : k = 2 * i + 1 ∨ k = 2 * i + 2 := by omega
                rcases h3 with rfl | rfl
                · have := HG.out; have := HK.out; omega
                · have := HG.out; have := HK.out; omega), H5.out⟩
        · have LA := Lib.hid (fun (x y : Int) (hx : x = (2 * i + 2 : Nat)) (hy : y = (2 * i + 1 : Nat)) => less_at H1.out (2 * i + 2) (2 * i + 1) x y hx hy (by have := HLB.out; omega) (by have := HLB.out; omega) HL9.out false (by simpa using hg))
          by_cases hk : at0 b i < at0 b (2 * i + 1)
          · have hk' : decide (at0 b i < at0 b (2 * i + 1)) = true := by simpa using hk
            have LB := Lib.hid (fun q (x y : Int) (hx : x = (2 * i + 1 : Nat)) (hy : y = (i : Nat)) => less_at (H1.out.draws q) (2 * i + 1) i x y hx hy (by have := HLB.out; omega) (by have := HLB.out; omega) HL9.out true hk')
            have LB0 := Lib.hid (fun (x y : Int) (hx : x = (2 * i + 1 : Nat)) (hy : y = (i : Nat)) => less_at H1.out (2 * i + 1) i x y hx hy (by have := HLB.out; omega) (by have := HLB.out; omega) HL9.out true hk')
            have HK := Lib.hid hk
            clear hk hk'
            have HG := Lib.hid hg
            clear hg LB0
            go_wp2_with (first
              | (go_at_call 64; (with_reducible refine (LA.out _ _ (by omega) (by omega)).mono ?_); rintro e w' ⟨rfl, q, rfl⟩)
              | (go_at_call 64; (with_reducible refine (LB.out _ _ _ (by omega) (by omega)).mono ?_); rintro e w' ⟨rfl, q2, rfl⟩)
              | (go_at_call 67; (with_reducible refine (swap_at (H1.out.draws _) i (2 * i + 1) _ _ (by omega) (by omega) (by have := HLB.out; omega) (by have := HLB.out; omega) HL9.out).mono ?_); rintro e w' ⟨rfl, hs, hbw⟩; have HS := Lib.hid hs; have HB := Lib.hid hbw; clear hs hbw))
            clear LA mL0 mL mS
            go_roundw
            case rel => exact ⟨2 * i + 1, swp b i (2 * i + 1), by go_num, by omega, HS.out, heapD_step H2.out (by have := HLB.out; omega) (by omega) (by omega) (by omega) HK.out (fun k _ _ hk2 => by
                have h3 : k = 2 * i + 1 ∨ k = 2 * i + 2 := by omega
                rcases h3 with rfl | rfl
                · have := HG.out; have := HK.out; omega
                · have := HG.out; have := HK.out; omega), (swp_perm (by have := HLB.out; omega) (by have := HLB.out; omega)).trans H3.out, by rw [swp_at (by have := HLB.out; omega) (by have := HLB.out; omega), if_neg (by omega), if_neg (by omega)]; exact H5.out, wth_trans H4.out (wth_trans (wth_draw (Within.refl _ _ _) _) HB.out)⟩
            case measure => simp [intOf]; omega
          · have hk' : decide (at0 b i < at0 b (2 * i + 1)) = false := by simpa using hk
            have LB := Lib.hid (fun q (x y : Int) (hx : x = (2 * i + 1 : Nat)) (hy : y = (i : Nat)) => less_at (H1.out.draws q) (2 * i + 1) i x y hx hy (by have := HLB.out; omega) (by have := HLB.out; omega) HL9.out false hk')
            have LB0 := Lib.hid (fun (x y : Int) (hx : x = (2 * i + 1 : Nat)) (hy : y = (i : Nat)) => less_at H1.out (2 * i + 1) i x y hx hy (by have := HLB.out; omega) (by have := HLB.out; omega) HL9.out false hk')
            have HK := Lib.hid hk
            clear hk hk'
            have HG := Lib.hid hg
            clear hg LB0
            go_wp2_with (first
              | (go_at_call 64; (with_reducible refine (LA.out _ _ (by omega) (by omega)).mono ?_); rintro e w' ⟨rfl, q, rfl⟩)
              | (go_at_call 64; (with_reducible refine (LB.out _ _ _ (by omega) (by omega)).mono ?_); rintro e w' ⟨rfl, q2, rfl⟩))
            go_ret
            exact ⟨⟨_, rfl⟩, wth_draw H4.out _, b, H1.out.draws _, H3.out, heapD_stop H2.out (fun k _ _ hk2 => by
                have h3 : k = 2 * i + 1 ∨ k = 2 * i + 2 := by omega
                rcases h3 with rfl | rfl
                · have := HG.out; have := HK.out; omega
                · have := HG.out; have := HK.out; omega), H5.out⟩
      · have h2' : ¬ (2 * (i : Int) + 1 + 1) < (n : Int) := by omega
        by_cases hk : at0 b i < at0 b (2 * i + 1)
        · have hk' : decide (at0 b i < at0 b (2 * i + 1)) = true := by simpa using hk
          have LB := Lib.hid (fun q (x y : Int) (hx : x = (2 * i + 1 : Nat)) (hy : y = (i : Nat)) => less_at (H1.out.draws q) (2 * i + 1) i x y hx hy (by have := HLB.out; omega) (by have := HLB.out; omega) HL9.out true hk')
          have LB0 := Lib.hid (fun (x y : Int) (hx : x = (2 * i + 1 : Nat)) (hy : y = (i : Nat)) => less_at H1.out (2 * i + 1) i x y hx hy (by have := HLB.out; omega) (by have := HLB.out; omega) HL9.out true hk')
          have HK := Lib.hid hk
          clear hk hk'
          clear LB
          go_wp2_with (first
            | (go_at_call 64; (with_reducible refine (LB0.out _ _ (by omega) (by omega)).mono ?_); rintro e w' ⟨rfl, q2, rfl⟩)
            | (go_at_call 67; (with_reducible refine (swap_at (H1.out.draws _) i (2 * i + 1) _ _ (by omega) (by omega) (by have := HLB.out; omega) (by have := HLB.out; omega) HL9.out).mono ?_); rintro e w' ⟨rfl, hs, hbw⟩; have HS := Lib.hid hs; have HB := Lib.hid hbw; clear hs hbw))
          clear mL0 mL mS
          go_roundw
          case rel => exact ⟨2 * i + 1, swp b i (2 * i + 1), by go_num, by omega, HS.out, heapD_step H2.out (by have := HLB.out; omega) (by omega) (by omega) (by omega) HK.out (fun k _ _ hk2 => by
              have h3 : k = 2 * i + 1 ∨ k = 2 * i + 2 := by omega
              rcases h3 with rfl | rfl
              · have := HK.out; omega
              · omega), (swp_perm (by have := HLB.out; omega) (by have := HLB.out; omega)).trans H3.out, by rw [swp_at (by have := HLB.out; omega) (by have := HLB.out; omega), if_neg (by omega), if_neg (by omega)]; exact H5.out, wth_trans H4.out (wth_trans (wth_draw (Within.refl _ _ _) _) HB.out)⟩
          case measure => simp [intOf]; omega
        · have hk' : decide (at0 b i < at0 b (2 * i + 1)) = false := by simpa using hk
          have LB := Lib.hid (fun q (x y : Int) (hx : x = (2 * i + 1 : Nat)) (hy : y = (i : Nat)) => less_at (H1.out.draws q) (2 * i + 1) i x y hx hy (by have := HLB.out; omega) (by have := HLB.out; omega) HL9.out false hk')
          have LB0 := Lib.hid (fun (x y : Int) (hx : x = (2 * i + 1 : Nat)) (hy : y = (i : Nat)) => less_at H1.out (2 * i + 1) i x y hx hy (by have := HLB.out; omega) (by have := HLB.out; omega) HL9.out false hk')
          have HK := Lib.hid hk
          clear hk hk'
          clear LB
          go_wp2_with (first
            | (go_at_call 64; (with_reducible refine (LB0.out _ _ (by omega) (by omega)).mono ?_); rintro e w' ⟨rfl, q2, rfl⟩))
          go_ret
          exact ⟨⟨_, rfl⟩, wth_draw H4.out _, b, H1.out.draws _, H3.out, heapD_stop H2.out (fun k _ _ hk2 => by
              have h3 : k = 2 * i + 1 ∨ k = 2 * i + 2 := by omega
              rcases h3 with rfl | rfl
              · have := HK.out; omega
              · omega), H5.out⟩
end
end Go.Proofs.Ytfaffpfjgipifaa
