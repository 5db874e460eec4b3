/- The exact law of TableSums: two lists of sums are handed back. -/
import Derived.Test.YtmmabdioncgkoaaTI
import Derived.Test.YtmmabdioncgkoaaXC
namespace Go.Proofs.Ytmmabdioncgkoaa
open Go.RowKit
theorem eqI_is (x : List Int) (v u : Value) (w : World) (hv : IsI w v x) (hu : IsI w u x) : Calls Try.prog 27 #[v, u] w (Back (.bool true) w) := by
  obtain ⟨A, c, rfl, h1, h2, hr⟩ := hv
  obtain ⟨A2, c2, rfl, _, _, hr2⟩ := hu
  refine (eqI_at x A A2 _ _ c c2 rfl rfl (Nat.le_trans h1 h2) w hr hr2).mono ?_
  rintro e w' ⟨rfl, m, rfl⟩
  exact ⟨rfl, below_draws (Below.refl _ _) m⟩
theorem heldI_is (K : Nat) (n : Nat) (v : Value) (w : World) (hv : IsI w v (mk K n)) (hl : K + n ≤ 300000000) :
    Calls Try.prog 29 #[v, .int .i64 K] w fun e w' => e = .returned (.int .i64 ((K + n : Nat) : Int)) ∧ w = w' := by
  obtain ⟨A, c, rfl, _, _, hr⟩ := hv
  rw [mk_len]
  exact heldI_any K n A c w hr hl
/-- A list of one's own, by its value. -/
theorem Own1.isI' {w : World} {B : Nat} {v : Value} {l : List Int} (h : Own1 TN w B v (icells l)) : IsI w v l := h.inI.is
theorem own_apart {w w' : World} {B : Nat} {v u : Value} {cs : List Value} (h : Own1 TN w B v cs) (hg : w.grownBy w' u.ownBlock) (hne : ∀ k, u.ownBlock = some k → v.ownBlock ≠ some k) : Own1 TN w' B v cs :=
  h.kept hg fun k e e2 => by
    have := hne k (by rw [← e2])
    exact this e
theorem rsumI_len (t : Tb) (h : t.length + tot t ≤ 1048576) : (rsumI t).length ≤ 1048576 ∧ (csumI t).length ≤ 1048576 := by
  unfold rsumI csumI
  constructor
  · split
    · rw [rsum_len]; omega
    · simp
  · split
    · next hk => rw [csum_len]; have := (tab_iff.1 hk).w4; omega
    · simp
set_option maxHeartbeats 4000000 in
theorem w_ExactTableSums (t : List (List Int)) (tv : Value) (W : World) (ht : IsR W tv t) :
    Calls Try.prog 5 #[tv] W fun e w' => e = .returned (.bool true) ∧ Below W.heap.size W w' := by
  have Ht := Lib.hid ht
  clear ht
  obtain ⟨r, hr⟩ : ∃ r, rsumI t = r := ⟨_, rfl⟩
  obtain ⟨s, hs⟩ : ∃ s, csumI t = s := ⟨_, rfl⟩
  obtain ⟨g, hg⟩ : ∃ g, tabOk t = g := ⟨_, rfl⟩
  have HR := Lib.hid hr
  have HS := Lib.hid hs
  have HG := Lib.hid hg
  have htt : (g != g) = false := by simp
  clear hr hs hg
  go_enter Try.func5, Try.ntmps5
  go_wp2_with fail
  refine (szR_is t tv 1048576 (by omega) (by omega) _ Ht.out).mono ?_
  rintro e w' ⟨rfl, rfl⟩
  rcases szL_cases (t.length + tot t) (left := 1048576) (by omega) (by omega) with hz | ⟨l1, m1, hn⟩
  · rw [hz]; go_wp2; go_ret; exact ⟨rfl, Below.refl _ _⟩
  obtain ⟨s1, hs⟩ : ∃ z, szL (t.length + tot t) 1048576 = z := ⟨_, rfl⟩
  rw [hs] at l1 m1 ⊢
  have HN := Lib.hid hn
  have hrl := rsumI_len t hn
  rw [HR.out, HS.out] at hrl
  have HRL := Lib.hid hrl
  clear hn hs hrl
  go_wp2_with fail
  refine (toR_is t tv HN.out _ Ht.out).mono ?_
  rintro e w1 ⟨x1, rfl, hx1, b1⟩
  go_wp2_with fail
  refine (sSums_is w1 t x1 hx1.is r s g HR.out HS.out HG.out _ (Below.refl _ _)).mono ?_
  rintro e w2 ⟨wv0, wv1, rfl, h0, h1, _, b2⟩
  have HB := Lib.hid (b1.trans (b2.mono b1.size))
  have HW0 := Lib.hid h0.is
  have HW1 := Lib.hid h1.is
  have HB2 := Lib.hid (Below.refl w2.heap.size w2)
  clear hx1 h0 h1 b1 b2
  go_wp2_with fail
  refine (toR_is t tv HN.out _ (Ht.out.below HB.out)).mono ?_
  rintro e w3 ⟨x0, rfl, hx0, hq⟩
  have HX0 := Lib.hid hx0
  have hz3 := hq.size
  clear hx0
  replace HB2 := Lib.hid (HB2.out.trans (hq.mono HB2.out.size))
  clear hq
  go_wp2_with fail
  refine (iSums_is w3 t x0 HX0.out.is r s g HR.out HS.out HG.out _ (Below.refl _ _)).mono ?_
  rintro e w4 ⟨gv0, gv1, rfl, h0, h1, hne, hq⟩
  have HG0 := Lib.hid h0.2.1
  have HG1 := Lib.hid h1.2.1
  have HNE := Lib.hid hne
  clear h0 h1 hne
  replace HX0 := Lib.hid (HX0.out.below hq)
  replace HB2 := Lib.hid (HB2.out.trans (hq.mono HB2.out.size))
  clear hq
  go_wp2_with fail
  refine (eqI_is r gv0 wv0 _ HG0.out.isI' (HW0.out.below HB2.out)).mono ?_
  rintro e w' ⟨rfl, hq⟩
  replace HX0 := Lib.hid (HX0.out.below hq)
  replace HG0 := Lib.hid (HG0.out.below hq)
  replace HG1 := Lib.hid (HG1.out.below hq)
  replace HB2 := Lib.hid (HB2.out.trans (hq.mono HB2.out.size))
  clear hq
  go_wp2_with fail
  refine (eqI_is s gv1 wv1 _ HG1.out.isI' (HW1.out.below HB2.out)).mono ?_
  rintro e w' ⟨rfl, hq⟩
  replace HX0 := Lib.hid (HX0.out.below hq)
  replace HG0 := Lib.hid (HG0.out.below hq)
  replace HG1 := Lib.hid (HG1.out.below hq)
  replace HB2 := Lib.hid (HB2.out.trans (hq.mono HB2.out.size))
  clear hq
  go_wp2_with fail
  refine (toR_is t tv HN.out _ (Ht.out.below (HB.out.trans (HB2.out.mono HB.out.size)))).mono ?_
  rintro e w5 ⟨x5, rfl, hx5, hq⟩
  have HX5 := Lib.hid (hx5.is)
  clear hx5
  replace HX0 := Lib.hid (HX0.out.below hq)
  replace HG0 := Lib.hid (HG0.out.below hq)
  replace HG1 := Lib.hid (HG1.out.below hq)
  replace HB2 := Lib.hid (HB2.out.trans (hq.mono HB2.out.size))
  clear hq
  go_wp2_with fail
  refine (eqR_arg t x0 x5 HN.out _ HX0.out.is HX5.out).mono ?_
  rintro e w' ⟨rfl, hq⟩
  clear HX5
  replace HX0 := Lib.hid (HX0.out.below hq)
  replace HG0 := Lib.hid (HG0.out.below hq)
  replace HG1 := Lib.hid (HG1.out.below hq)
  replace HB2 := Lib.hid (HB2.out.trans (hq.mono HB2.out.size))
  clear hq
  go_wp2_with fail
  refine (markR_in 1 (by omega) t x0 w2.heap.size w3.heap.size HN.out _ HX0.out).mono ?_
  rintro e w6 ⟨rfl, _, hw6⟩
  obtain ⟨K, hK⟩ : ∃ K1, 1 + tot t = K1 := ⟨_, rfl⟩
  rw [hK]
  clear hK HX0
  have pt : ¬ (K : Int) < 0 := by omega
  replace HG0 := Lib.hid (HG0.out.same fun k e => hw6.2.2.2.2 k (HG0.out.ob k e).2 (.inr (HG0.out.ob k e).1))
  replace HG1 := Lib.hid (HG1.out.same fun k e => hw6.2.2.2.2 k (HG1.out.ob k e).2 (.inr (HG1.out.ob k e).1))
  replace HB2 := Lib.hid (below_within HB2.out hw6 (Nat.le_refl _))
  clear hw6
  go_wp2_with fail
  refine (eqI_is r gv0 wv0 _ HG0.out.isI' (HW0.out.below HB2.out)).mono ?_
  rintro e w' ⟨rfl, hq⟩
  replace HG0 := Lib.hid (HG0.out.below hq)
  replace HG1 := Lib.hid (HG1.out.below hq)
  replace HB2 := Lib.hid (HB2.out.trans (hq.mono HB2.out.size))
  clear hq
  go_wp2_with fail
  refine (eqI_is s gv1 wv1 _ HG1.out.isI' (HW1.out.below HB2.out)).mono ?_
  rintro e w' ⟨rfl, hq⟩
  replace HG0 := Lib.hid (HG0.out.below hq)
  replace HG1 := Lib.hid (HG1.out.below hq)
  replace HB2 := Lib.hid (HB2.out.trans (hq.mono HB2.out.size))
  clear hq
  go_wp2_with fail
  refine (markI_any r gv0 w3.heap.size _ HG0.out 1 (by have := HRL.out.1; omega)).mono ?_
  rintro e w7 ⟨rfl, ho, hgr⟩
  replace HG1 := Lib.hid (own_apart HG1.out hgr HNE.out)
  replace HB2 := Lib.hid (HB2.out.grown hgr HB2.out.size (fun k hk => Nat.le_trans hz3 (HG0.out.ob k hk).1))
  replace HG0 := Lib.hid ho
  obtain ⟨K1, hK1⟩ : ∃ K1, 1 + r.length = K1 := ⟨_, rfl⟩
  rw [hK1]
  have HK1 := Lib.hid hK1
  have hk1 : K1 ≤ 1048577 := by have := HRL.out.1; omega
  clear ho hgr hK1
  go_wp2_with fail
  refine (markI_any s gv1 w3.heap.size _ HG1.out K1 (by have := HRL.out.2; omega)).mono ?_
  rintro e w8 ⟨rfl, ho, hgr⟩
  replace HG0 := Lib.hid (own_apart HG0.out hgr (fun k e e2 => HNE.out k e2 e))
  replace HB2 := Lib.hid (HB2.out.grown hgr HB2.out.size (fun k hk => Nat.le_trans hz3 (HG1.out.ob k hk).1))
  replace HG1 := Lib.hid ho
  obtain ⟨K2, hK2⟩ : ∃ K2, K1 + s.length = K2 := ⟨_, rfl⟩
  rw [hK2]
  have HK2 := Lib.hid hK2
  have hk2 : K2 ≤ 3000000 := by have := HRL.out.2; omega
  clear ho hgr hK2
  have q1 : ¬ (K1 : Int) < 0 := by omega
  have q2 : ¬ (K2 : Int) < 0 := by omega
  go_wp2_with fail
  refine (heldI_is 1 r.length gv0 _ HG0.out.isI' (by have := HRL.out.1; omega)).mono ?_
  rintro e w' ⟨rfl, rfl⟩
  rw [HK1.out]
  go_wp2_with fail
  refine (heldI_is K1 s.length gv1 _ HG1.out.isI' (by have := HRL.out.2; omega)).mono ?_
  rintro e w' ⟨rfl, rfl⟩
  rw [HK2.out]
  go_wp2_with fail
  refine (toR_is t tv HN.out _ (Ht.out.below (HB.out.trans (HB2.out.mono HB.out.size)))).mono ?_
  rintro e w9 ⟨x9, rfl, hx9, hq⟩
  have HX9 := Lib.hid (hx9.is)
  clear hx9
  replace HG0 := Lib.hid (HG0.out.below hq)
  replace HG1 := Lib.hid (HG1.out.below hq)
  replace HB2 := Lib.hid (HB2.out.trans (hq.mono HB2.out.size))
  clear hq
  go_wp2_with fail
  refine (iSums_is w9 t x9 HX9.out r s g HR.out HS.out HG.out _ (Below.refl _ _)).mono ?_
  rintro e w10 ⟨hv0, hv1, rfl, h0, h1, _, hq⟩
  have HH0 := Lib.hid h0.2.1
  have HH1 := Lib.hid h1.2.1
  clear h0 h1 HX9
  replace HG0 := Lib.hid (HG0.out.below hq)
  replace HG1 := Lib.hid (HG1.out.below hq)
  replace HB2 := Lib.hid (HB2.out.trans (hq.mono HB2.out.size))
  clear hq
  go_wp2_with fail
  refine (eqI_is r hv0 wv0 _ HH0.out.isI' (HW0.out.below HB2.out)).mono ?_
  rintro e w' ⟨rfl, hq⟩
  replace HG0 := Lib.hid (HG0.out.below hq)
  replace HG1 := Lib.hid (HG1.out.below hq)
  replace HH0 := Lib.hid (HH0.out.below hq)
  replace HH1 := Lib.hid (HH1.out.below hq)
  replace HB2 := Lib.hid (HB2.out.trans (hq.mono HB2.out.size))
  clear hq
  go_wp2_with fail
  refine (eqI_is s hv1 wv1 _ HH1.out.isI' (HW1.out.below HB2.out)).mono ?_
  rintro e w' ⟨rfl, hq⟩
  replace HG0 := Lib.hid (HG0.out.below hq)
  replace HG1 := Lib.hid (HG1.out.below hq)
  replace HB2 := Lib.hid (HB2.out.trans (hq.mono HB2.out.size))
  clear hq
  go_wp2_with fail
  refine (heldI_is 1 r.length gv0 _ HG0.out.isI' (by have := HRL.out.1; omega)).mono ?_
  rintro e w' ⟨rfl, rfl⟩
  rw [HK1.out]
  go_wp2_with fail
  refine (heldI_is K1 s.length gv1 _ HG1.out.isI' (by have := HRL.out.2; omega)).mono ?_
  rintro e w' ⟨rfl, rfl⟩
  rw [HK2.out]
  go_wp2
  go_ret
  exact ⟨by first | rfl | exact retb (by simp), HB.out.trans (HB2.out.mono HB.out.size)⟩
end Go.Proofs.Ytmmabdioncgkoaa
