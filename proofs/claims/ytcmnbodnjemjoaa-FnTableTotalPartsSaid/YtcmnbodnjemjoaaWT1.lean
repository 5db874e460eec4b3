/- Laws of chapter 11 on tables. -/
import Derived.Test.YtcmnbodnjemjoaaTI
import Derived.Test.YtcmnbodnjemjoaaTL4
import Derived.Test.YtcmnbodnjemjoaaTD5
import Derived.Test.YtcmnbodnjemjoaaA2
import Derived.Test.YtcmnbodnjemjoaaA4
import Derived.OrdersHeld
import Derived.Deep.RegionHeld3
namespace Go.Proofs.Ytcmnbodnjemjoaa
open Go.RowKit
theorem region_held_any {P : Program} {ops : Array Oper} {S : World → Prop} {id : Nat} {K : Exit → Act → World → Prop} {a : Act} {w : World} (hm : P.follows .mixedOrders = true)
    (h : wpAnyH P .any ops (fun e a y => e = .normal ∧ K e a y) S ops.size (Array.replicate ops.size false) a w.drew) : (Code.region id ops true).wp P K a w :=
  wp_mono (wp_region_held hm h) fun _ _ _ h => h.2
theorem ttot_no {t : Tb} (h : tabOk t = false) : ttot t = -1 := by rw [ttot, h]; rfl
theorem ttot_bd {t : Tb} (h : Tab t) : 0 ≤ ttot t ∧ ttot t ≤ 1584 := by
  have h2 := tab_iff.2 h
  rw [ttot, if_pos h2, tsum]
  have key : ∀ t : Tb, (∀ r ∈ t, r.length ≤ 4 ∧ ∀ x ∈ r, 0 ≤ x ∧ x ≤ 99) → 0 ≤ (rsum t).sum ∧ (rsum t).sum ≤ 396 * (t.length : Int) := fun t => by
    induction t with
    | nil => intro _; simp [rsum]
    | cons r t ih =>
      intro h
      have h1 := ih fun x hx => h x (List.mem_cons_of_mem _ hx)
      obtain ⟨h3, h4⟩ := h r (by simp)
      have h5 := sum_bd99 r h4
      simp only [rsum, List.map_cons, List.sum_cons, List.length_cons] at *
      omega
  have h4 := h.h4
  have h5 := h.w4
  have := key t fun r hr => ⟨by rw [h.len r hr]; omega, fun x hx => h.bd r hr x hx⟩
  omega
set_option maxHeartbeats 4000000 in
theorem w_TableTotalParts (A : Option Addr) (n c : Nat) (hnc : n ≤ c) (hn : n ≤ maxLen) (A2 : Option Addr) (m c2 : Nat) (_hmc : m ≤ c2) (hm : m ≤ maxLen) (w : World) (hb : Bytes w w.heap.size A n) (_hb2 : Bytes w w.heap.size A2 m) :
    Calls Try.prog 7 #[.slice A n c, .slice A2 m c2] w fun e w' => e = .returned (.bool true) ∧ Below w.heap.size w w' := by
  have hn2 := hn
  have hm2 := hm
  unfold maxLen at hn2 hm2
  rcases (show 1048576 < n ∨ (¬ 1048576 < n ∧ 1048576 < m) ∨ ¬ 1048576 < n ∧ ¬ 1048576 < m by omega) with hbig | ⟨hbig, hbig2⟩ | ⟨hbig, hbig2⟩
  · go_enter Try.func7, Try.ntmps7
    go_wp2
    go_ret
    exact ⟨rfl, Below.refl _ _⟩
  · go_enter Try.func7, Try.ntmps7
    go_wp2
    go_ret
    exact ⟨rfl, Below.refl _ _⟩
  · go_enter Try.func7, Try.ntmps7
    go_wp2_with fail
    refine (dTabTotal_any A n c hnc hn _ hb).mono ?_
    rintro e W ⟨v, t, rfl, hv, hl, hlr, hbW⟩
    have HV := Lib.hid hv
    obtain ⟨B, d, hvv, hld, hd, hrow⟩ := hv
    subst hvv
    cases htt : tabOk t
    · have HG := Lib.hid (ttot_no htt)
      clear htt
      go_wp2_with fail
      refine (iTotal_is W t _ HV.out (-1) HG.out _ (Below.refl _ _)).mono ?_
      rintro e w1 ⟨rfl, b1⟩
      go_wp2_with fail
      refine (sTotal_is W t _ HV.out (-1) HG.out _ b1).mono ?_
      rintro e w2 ⟨rfl, b2⟩
      go_wp2
      go_ret
      exact ⟨rfl, hbW.trans (b2.mono hbW.size)⟩
    · have ht := tab_iff.1 htt
      have hbd := ttot_bd ht
      have hl1 := ht.h1
      have hl4 := ht.h4
      obtain ⟨k, hk, hkl⟩ := modN m t.length hl1
      have hturn := ttot_turn ht
      have hpart := fun h1 => m_parts ht (k := k) h1 hkl
      have htk := fun h1 => ttot_bd (tab_take ht (k := k) h1 (by omega))
      have htd := ttot_bd (tab_drop ht (k := k) hkl)
      obtain ⟨g, hg⟩ : ∃ g, ttot t = g := ⟨_, rfl⟩
      obtain ⟨g1, hg1⟩ : ∃ g, ttot (t.take k) = g := ⟨_, rfl⟩
      obtain ⟨g2, hg2⟩ : ∃ g, ttot (t.drop k) = g := ⟨_, rfl⟩
      rw [hg] at hturn hpart hbd
      rw [hg1] at hpart htk
      rw [hg2] at hpart htd
      have HG := Lib.hid hg
      have H1 := Lib.hid hg1
      have H2 := Lib.hid hg2
      have HT := Lib.hid hturn
      have HK := Lib.hid hk
      have HM := Lib.hid (show turnI t = turn t by rw [turnI, if_pos htt])
      have HOK := Lib.hid htt
      have r1 := hrow.front k
      obtain ⟨B2, hsl, hB2⟩ := sliceTailLL B t.length d k (by omega) hld
      have r2 := hB2 W _ t rfl hrow
      have hkd : k ≤ d := by omega
      have hkd2 : (k : Int) ≤ (d : Int) := by omega
      have hkl2 : (k : Int) ≤ (t.length : Int) := by omega
      have hln : ¬ (t.length : Int) = 0 := by omega
      have hg0 : ¬ g < 0 := by omega
      have HV1 := Lib.hid (show IsR W (.slice B k d) (t.take k) from ⟨B, d, by rw [List.length_take, Nat.min_eq_left (by omega)], by rw [List.length_take]; omega, hd, r1⟩)
      have HV2 := Lib.hid (show IsR W (.slice B2 (t.length - k) (d - k)) (t.drop k) from ⟨B2, d - k, by rw [List.length_drop], by rw [List.length_drop]; omega, by omega, r2⟩)
      clear hB2 hg hg1 hg2 hk hrow r1 r2 hlr htt ht hturn
      go_wp2_with fail
      refine (iTotal_is W t _ HV.out g HG.out _ (Below.refl _ _)).mono ?_
      rintro e w1 ⟨rfl, b1⟩
      go_wp2_with fail
      refine (sTotal_is W t _ HV.out g HG.out _ b1).mono ?_
      rintro e w2 ⟨rfl, b2⟩
      go_wp2_with fail
      rw [HK.out]
      refine (iTurn_is W t _ HV.out (turn t) true HM.out HOK.out _ b2).mono ?_
      rintro e w3 ⟨u, rfl, hou, h3⟩
      have b3 : Below W.heap.size W w3 := b2.trans (h3.mono b2.size)
      have HU := Lib.hid hou.is
      have HW1 := Lib.hid (HV1.out.below b3)
      have HW2 := Lib.hid (HV2.out.below b3)
      clear hou h3
      rcases (show k = 0 ∨ 1 ≤ k by omega) with hk0 | hk1
      · subst hk0
        go_wp2
        have hmx : Try.prog.follows .mixedOrders = true := by kernel_rfl
        have hS0 : (fun y : World => Below w3.heap.size w3 y) w3.drew := (Below.refl _ _).drew
        clear htk hpart hg0 hln hkd hkd2 hkl2 hbd
        refine region_held_any (S := fun y : World => Below w3.heap.size w3 y) hmx ?_
        refine wpAnyH_take (i := 0) (v := .bool true) rfl (by kernel_rfl) (by kernel_rfl) (by kernel_rfl) (fun _ _ _ h => by cases h.1) (Or.inl ⟨by rfl, ?_⟩) hS0 ?_
        · (intro y hy; go_simp)
        (try simp only [Act.put])
        (try simp only [List.getElem_toArray])
        (try simp only [List.getElem_cons_succ])
        (try simp only [List.getElem_cons_zero])
        (try simp only [List.setIfInBounds_toArray])
        (try simp only [List.set_cons_succ])
        (try simp only [List.set_cons_zero])
        refine wpAnyH_take (i := 1) (v := .bool true) rfl (by kernel_rfl) (by kernel_rfl) (by kernel_rfl) (fun _ _ _ h => by cases h.1) (Or.inl ⟨by rfl, ?_⟩) hS0 ?_
        · (intro y hy; go_simp)
        (try simp only [Act.put])
        (try simp only [List.getElem_toArray])
        (try simp only [List.getElem_cons_succ])
        (try simp only [List.getElem_cons_zero])
        (try simp only [List.setIfInBounds_toArray])
        (try simp only [List.set_cons_succ])
        (try simp only [List.set_cons_zero])
        refine wpAnyH_take (i := 2) (v := u) rfl (by kernel_rfl) (by kernel_rfl) (by kernel_rfl) (fun _ _ _ h => by cases h.1) (Or.inl ⟨by rfl, ?_⟩) hS0 ?_
        · (intro y hy; go_simp)
        (try simp only [Act.put])
        (try simp only [List.getElem_toArray])
        (try simp only [List.getElem_cons_succ])
        (try simp only [List.getElem_cons_zero])
        (try simp only [List.setIfInBounds_toArray])
        (try simp only [List.set_cons_succ])
        (try simp only [List.set_cons_zero])
        refine wpAnyH_take (i := 4) (v := .int .i64 g) rfl (by kernel_rfl) (by kernel_rfl) (by kernel_rfl) (fun _ _ _ h => by cases h.1) (Or.inl ⟨by rfl, ?_⟩) hS0 ?_
        · (intro y hy; go_simp)
        (try simp only [Act.put])
        (try simp only [List.getElem_toArray])
        (try simp only [List.getElem_cons_succ])
        (try simp only [List.getElem_cons_zero])
        (try simp only [List.setIfInBounds_toArray])
        (try simp only [List.set_cons_succ])
        (try simp only [List.set_cons_zero])
        refine wpAnyH_all (rs := [3]) (by kernel_rfl) (by simp) (fun i hi => ?_)
        obtain rfl : i = 3 := by simpa using hi
        clear hi
        unfold wpOp
        simp only [List.getElem?_toArray, List.getElem?_cons_succ, List.getElem?_cons_zero]
        rw [if_pos (by rfl)]
        left
        unfold Oper.wp
        go_simp
        refine (iTotal_is w3 (turn t) _ HU.out g HT.out _ hS0).mono ?_
        rintro e w4 ⟨rfl, h4⟩
        have hS1 : (fun y : World => Below w3.heap.size w3 y) w4 := h4
        refine ⟨hS1, ?_⟩
        (try simp only [Act.put])
        (try simp only [List.getElem_toArray])
        (try simp only [List.getElem_cons_succ])
        (try simp only [List.getElem_cons_zero])
        (try simp only [List.setIfInBounds_toArray])
        (try simp only [List.set_cons_succ])
        (try simp only [List.set_cons_zero])
        refine wpAnyH_take (i := 5) (v := .bool true) rfl (by kernel_rfl) (by kernel_rfl) (by kernel_rfl) (fun _ _ _ h => by cases h.1) (Or.inl ⟨by rfl, ?_⟩) hS1 ?_
        · (intro y hy; go_simp)
        (try simp only [Act.put])
        (try simp only [List.getElem_toArray])
        (try simp only [List.getElem_cons_succ])
        (try simp only [List.getElem_cons_zero])
        (try simp only [List.setIfInBounds_toArray])
        (try simp only [List.set_cons_succ])
        (try simp only [List.set_cons_zero])
        refine wpAnyH_take (i := 6) (v := .bool true) rfl (by kernel_rfl) (by kernel_rfl) (by kernel_rfl) (fun _ _ _ h => by cases h.1) (Or.inl ⟨by rfl, ?_⟩) hS1 ?_
        · (intro y hy; go_simp)
        (try simp only [Act.put])
        (try simp only [List.getElem_toArray])
        (try simp only [List.getElem_cons_succ])
        (try simp only [List.getElem_cons_zero])
        (try simp only [List.setIfInBounds_toArray])
        (try simp only [List.set_cons_succ])
        (try simp only [List.set_cons_zero])
        refine wpAnyH_take (i := 7) (v := .bool true) rfl (by kernel_rfl) (by kernel_rfl) (by kernel_rfl) (fun _ _ _ h => by cases h.1) (Or.inl ⟨by rfl, ?_⟩) hS1 ?_
        · (intro y hy; go_simp)
        (try simp only [Act.put])
        (try simp only [List.getElem_toArray])
        (try simp only [List.getElem_cons_succ])
        (try simp only [List.getElem_cons_zero])
        (try simp only [List.setIfInBounds_toArray])
        (try simp only [List.set_cons_succ])
        (try simp only [List.set_cons_zero])
        refine wpAnyH_take (i := 8) (v := .int .i64 0) rfl (by kernel_rfl) (by kernel_rfl) (by kernel_rfl) (fun _ _ _ h => by cases h.1) (Or.inl ⟨by rfl, ?_⟩) hS1 ?_
        · (intro y hy; go_simp)
        (try simp only [Act.put])
        (try simp only [List.getElem_toArray])
        (try simp only [List.getElem_cons_succ])
        (try simp only [List.getElem_cons_zero])
        (try simp only [List.setIfInBounds_toArray])
        (try simp only [List.set_cons_succ])
        (try simp only [List.set_cons_zero])
        refine wpAnyH_take (i := 9) (v := .bool true) rfl (by kernel_rfl) (by kernel_rfl) (by kernel_rfl) (fun _ _ _ h => by cases h.1) (Or.inl ⟨by rfl, ?_⟩) hS1 ?_
        · (intro y hy; go_simp)
        (try simp only [Act.put])
        (try simp only [List.getElem_toArray])
        (try simp only [List.getElem_cons_succ])
        (try simp only [List.getElem_cons_zero])
        (try simp only [List.setIfInBounds_toArray])
        (try simp only [List.set_cons_succ])
        (try simp only [List.set_cons_zero])
        refine wpAnyH_take (i := 10) (v := .bool true) rfl (by kernel_rfl) (by kernel_rfl) (by kernel_rfl) (fun _ _ _ h => by cases h.1) (Or.inl ⟨by rfl, ?_⟩) hS1 ?_
        · (intro y hy; go_simp)
        (try simp only [Act.put])
        (try simp only [List.getElem_toArray])
        (try simp only [List.getElem_cons_succ])
        (try simp only [List.getElem_cons_zero])
        (try simp only [List.setIfInBounds_toArray])
        (try simp only [List.set_cons_succ])
        (try simp only [List.set_cons_zero])
        refine wpAnyH_take (i := 11) (v := undef) rfl (by kernel_rfl) (by kernel_rfl) (by kernel_rfl) (fun _ _ _ h => by cases h.1) (Or.inr ⟨by rfl, rfl⟩) hS1 ?_
        (try simp only [Act.put])
        (try simp only [List.getElem_toArray])
        (try simp only [List.getElem_cons_succ])
        (try simp only [List.getElem_cons_zero])
        (try simp only [List.setIfInBounds_toArray])
        (try simp only [List.set_cons_succ])
        (try simp only [List.set_cons_zero])
        refine wpAnyH_take (i := 12) (v := undef) rfl (by kernel_rfl) (by kernel_rfl) (by kernel_rfl) (fun _ _ _ h => by cases h.1) (Or.inr ⟨by rfl, rfl⟩) hS1 ?_
        (try simp only [Act.put])
        (try simp only [List.getElem_toArray])
        (try simp only [List.getElem_cons_succ])
        (try simp only [List.getElem_cons_zero])
        (try simp only [List.setIfInBounds_toArray])
        (try simp only [List.set_cons_succ])
        (try simp only [List.set_cons_zero])
        refine wpAnyH_take (i := 13) (v := undef) rfl (by kernel_rfl) (by kernel_rfl) (by kernel_rfl) (fun _ _ _ h => by cases h.1) (Or.inr ⟨by rfl, rfl⟩) hS1 ?_
        (try simp only [Act.put])
        (try simp only [List.getElem_toArray])
        (try simp only [List.getElem_cons_succ])
        (try simp only [List.getElem_cons_zero])
        (try simp only [List.setIfInBounds_toArray])
        (try simp only [List.set_cons_succ])
        (try simp only [List.set_cons_zero])
        refine wpAnyH_take (i := 14) (v := undef) rfl (by kernel_rfl) (by kernel_rfl) (by kernel_rfl) (fun _ _ _ h => by cases h.1) (Or.inr ⟨by rfl, rfl⟩) hS1 ?_
        (try simp only [Act.put])
        (try simp only [List.getElem_toArray])
        (try simp only [List.getElem_cons_succ])
        (try simp only [List.getElem_cons_zero])
        (try simp only [List.setIfInBounds_toArray])
        (try simp only [List.set_cons_succ])
        (try simp only [List.set_cons_zero])
        refine wpAnyH_take (i := 15) (v := undef) rfl (by kernel_rfl) (by kernel_rfl) (by kernel_rfl) (fun _ _ _ h => by cases h.1) (Or.inr ⟨by rfl, rfl⟩) hS1 ?_
        (try simp only [Act.put])
        (try simp only [List.getElem_toArray])
        (try simp only [List.getElem_cons_succ])
        (try simp only [List.getElem_cons_zero])
        (try simp only [List.setIfInBounds_toArray])
        (try simp only [List.set_cons_succ])
        (try simp only [List.set_cons_zero])
        refine wpAnyH_take (i := 16) (v := undef) rfl (by kernel_rfl) (by kernel_rfl) (by kernel_rfl) (fun _ _ _ h => by cases h.1) (Or.inr ⟨by rfl, rfl⟩) hS1 ?_
        (try simp only [Act.put])
        (try simp only [List.getElem_toArray])
        (try simp only [List.getElem_cons_succ])
        (try simp only [List.getElem_cons_zero])
        (try simp only [List.setIfInBounds_toArray])
        (try simp only [List.set_cons_succ])
        (try simp only [List.set_cons_zero])
        refine wpAnyH_take (i := 17) (v := undef) rfl (by kernel_rfl) (by kernel_rfl) (by kernel_rfl) (fun _ _ _ h => by cases h.1) (Or.inr ⟨by rfl, rfl⟩) hS1 ?_
        (try simp only [Act.put])
        (try simp only [List.getElem_toArray])
        (try simp only [List.getElem_cons_succ])
        (try simp only [List.getElem_cons_zero])
        (try simp only [List.setIfInBounds_toArray])
        (try simp only [List.set_cons_succ])
        (try simp only [List.set_cons_zero])
        refine wpAnyH_take (i := 18) (v := undef) rfl (by kernel_rfl) (by kernel_rfl) (by kernel_rfl) (fun _ _ _ h => by cases h.1) (Or.inr ⟨by rfl, rfl⟩) hS1 ?_
        (try simp only [Act.put])
        (try simp only [List.getElem_toArray])
        (try simp only [List.getElem_cons_succ])
        (try simp only [List.getElem_cons_zero])
        (try simp only [List.setIfInBounds_toArray])
        (try simp only [List.set_cons_succ])
        (try simp only [List.set_cons_zero])
        refine wpAnyH_take (i := 19) (v := undef) rfl (by kernel_rfl) (by kernel_rfl) (by kernel_rfl) (fun _ _ _ h => by cases h.1) (Or.inr ⟨by rfl, rfl⟩) hS1 ?_
        (try simp only [Act.put])
        (try simp only [List.getElem_toArray])
        (try simp only [List.getElem_cons_succ])
        (try simp only [List.getElem_cons_zero])
        (try simp only [List.setIfInBounds_toArray])
        (try simp only [List.set_cons_succ])
        (try simp only [List.set_cons_zero])
        refine wpAnyH_take (i := 20) (v := undef) rfl (by kernel_rfl) (by kernel_rfl) (by kernel_rfl) (fun _ _ _ h => by cases h.1) (Or.inr ⟨by rfl, rfl⟩) hS1 ?_
        (try simp only [Act.put])
        (try simp only [List.getElem_toArray])
        (try simp only [List.getElem_cons_succ])
        (try simp only [List.getElem_cons_zero])
        (try simp only [List.setIfInBounds_toArray])
        (try simp only [List.set_cons_succ])
        (try simp only [List.set_cons_zero])
        refine wpAnyH_take (i := 21) (v := undef) rfl (by kernel_rfl) (by kernel_rfl) (by kernel_rfl) (fun _ _ _ h => by cases h.1) (Or.inr ⟨by rfl, rfl⟩) hS1 ?_
        (try simp only [Act.put])
        (try simp only [List.getElem_toArray])
        (try simp only [List.getElem_cons_succ])
        (try simp only [List.getElem_cons_zero])
        (try simp only [List.setIfInBounds_toArray])
        (try simp only [List.set_cons_succ])
        (try simp only [List.set_cons_zero])
        refine wpAnyH_take (i := 22) (v := .bool true) rfl (by kernel_rfl) (by kernel_rfl) (by kernel_rfl) (fun _ _ _ h => by cases h.1) (Or.inl ⟨by rfl, ?_⟩) hS1 ?_
        · (intro y hy; go_simp)
        (try simp only [Act.put])
        (try simp only [List.getElem_toArray])
        (try simp only [List.getElem_cons_succ])
        (try simp only [List.getElem_cons_zero])
        (try simp only [List.setIfInBounds_toArray])
        (try simp only [List.set_cons_succ])
        (try simp only [List.set_cons_zero])
        refine wpAnyH_take (i := 23) (v := .bool true) rfl (by kernel_rfl) (by kernel_rfl) (by kernel_rfl) (fun _ _ _ h => by cases h.1) (Or.inl ⟨by rfl, ?_⟩) hS1 ?_
        · (intro y hy; go_simp)
        (try simp only [Act.put])
        (try simp only [List.getElem_toArray])
        (try simp only [List.getElem_cons_succ])
        (try simp only [List.getElem_cons_zero])
        (try simp only [List.setIfInBounds_toArray])
        (try simp only [List.set_cons_succ])
        (try simp only [List.set_cons_zero])
        refine wpAnyH_take (i := 24) (v := .bool true) rfl (by kernel_rfl) (by kernel_rfl) (by kernel_rfl) (fun _ _ _ h => by cases h.1) (Or.inl ⟨by rfl, ?_⟩) hS1 ?_
        · (intro y hy; go_simp)
        (try simp only [Act.put])
        (try simp only [List.getElem_toArray])
        (try simp only [List.getElem_cons_succ])
        (try simp only [List.getElem_cons_zero])
        (try simp only [List.setIfInBounds_toArray])
        (try simp only [List.set_cons_succ])
        (try simp only [List.set_cons_zero])
        refine wpAnyH_done (by kernel_rfl) ⟨rfl, ?_⟩ _
        go_wp2
        go_ret
        exact ⟨rfl, hbW.trans ((b3.trans (h4.mono b3.size)).mono hbW.size)⟩
      · have hk0 : ¬ k = 0 := by omega
        have hk0' : ((k : Int) == 0) = false := by rw [beq_eq_false_iff_ne]; omega
        have hb1 := htk hk1
        have hp1 := hpart hk1
        have hsum : IntKind.i64.wrap (g1 + g2) = g := by rw [IntKind.wrap_i64]; omega
        have hwg : IntKind.i64.wrap g = g := by rw [IntKind.wrap_i64]; omega
        clear htk hpart
        go_wp2
        go_region_held3 (fun w' => Below w3.heap.size w3 w') (first | assumption | exact (Below.refl w3.heap.size w3).drew) (first
          | (go_at_call 23; (with_reducible refine (iTotal_is w3 (turn t) _ HU.out g HT.out _ ?_).mono ?_); (first | assumption | exact (Below.refl w3.heap.size w3).drew); rintro e w4 ⟨rfl, h4⟩)
          | (go_at_call 23; (with_reducible refine (iTotal_is w3 (t.take k) _ HW1.out g1 H1.out _ ?_).mono ?_); (first | assumption | exact (Below.refl w3.heap.size w3).drew); rintro e w4 ⟨rfl, h4⟩)
          | (go_at_call 23; (with_reducible refine (iTotal_is w3 (t.drop k) _ HW2.out g2 H2.out _ ?_).mono ?_); (first | assumption | exact (Below.refl w3.heap.size w3).drew); rintro e w4 ⟨rfl, h4⟩))
        go_wp2
        go_ret
        exact ⟨rfl, hbW.trans ((b3.trans (Below.mono (by assumption) b3.size)).mono hbW.size)⟩
end Go.Proofs.Ytcmnbodnjemjoaa
