/- Contracts of the model: the best recoding. -/
import Derived.Test.YtofobkamnolddaaAS
import Derived.Deep.RegionHeld3
namespace Go.Proofs.Ytofobkamnolddaa
open Go.RowKit
def bestS (b : Option Rc) : Value := .tuple #[(b.getD rlow).val, .bool b.isSome]
def pr (a n : Nat) : List Rc := rcsTo a ++ (rcs4 a).take n
theorem pr_succ (a n : Nat) (hn : n < 4) : pr a (n + 1) = pr a n ++ [⟨a, (n : Int) / 2, (n : Int) % 2⟩] := by
  unfold pr
  rcases (show n = 0 ∨ n = 1 ∨ n = 2 ∨ n = 3 by omega) with rfl | rfl | rfl | rfl <;> simp [rcs4]
theorem pr_zero (a : Nat) : pr a 0 = rcsTo a := by unfold pr; simp
theorem pr_four (a : Nat) : pr a 4 = rcsTo (a + 1) := by unfold pr rcsTo; rw [List.range_succ, List.flatMap_append]; simp [rcs4]
theorem pr_ok {ll : List (List Int)} (h0 : ladOk ll = true) {a n : Nat} (ha : a ≤ ll.length) (hn : n < 4) : rcOk ll ⟨a, (n : Int) / 2, (n : Int) % 2⟩ = true := rc_mk h0 (by simp only; omega) (by simp only; omega) (by simp only; omega) (by simp only; omega) (by simp only; omega) (by simp only; omega)
theorem blkS {w : World} {g : Nat} {t : TypeId} {a b c : Value} (h : w.heap[g]? = some (.cells #[a, b, c] t (0, 0))) :
    w.cell? ⟨g, 0, none⟩ = some a ∧ w.cell? ⟨g, 1, none⟩ = some b ∧ w.cell? ⟨g, 2, none⟩ = some c ∧ w.frozen? ⟨g, 0, none⟩ = false ∧ w.frozen? ⟨g, 1, none⟩ = false ∧ w.frozen? ⟨g, 2, none⟩ = false := by
  refine ⟨?_, ?_, ?_, ?_, ?_, ?_⟩ <;> simp [World.cell?, World.frozen?, h]
theorem setS {w : World} {g : Nat} {t : TypeId} {a0 a1 a2 : Value} (h : w.heap[g]? = some (.cells #[a0, a1, a2] t (0, 0))) (b0 b1 b2 : Value) :
    (((w.setCell ⟨g, 0, none⟩ b0).setCell ⟨g, 1, none⟩ b1).setCell ⟨g, 2, none⟩ b2).heap[g]? = some (.cells #[b0, b1, b2] t (0, 0)) := by
  simp [World.setCell, Array.getElem?_modify, h]
theorem setS_far (w : World) (g : Nat) (b0 b1 b2 : Value) (k : Nat) (hk : k ≠ g) : (((w.setCell ⟨g, 0, none⟩ b0).setCell ⟨g, 1, none⟩ b1).setCell ⟨g, 2, none⟩ b2).heap[k]? = w.heap[k]? :=
  ((Below.heap_setCell _ ⟨g, 2, none⟩ b2 k hk).trans (Below.heap_setCell _ ⟨g, 1, none⟩ b1 k hk)).trans (Below.heap_setCell _ ⟨g, 0, none⟩ b0 k hk)
theorem setS_below {N : Nat} {X w : World} (h : Below N X w) {g : Nat} (hN : N ≤ g) (b0 b1 b2 : Value) : Below N X (((w.setCell ⟨g, 0, none⟩ b0).setCell ⟨g, 1, none⟩ b1).setCell ⟨g, 2, none⟩ b2) :=
  ((h.setCell (p := ⟨g, 0, none⟩) hN b0).setCell (p := ⟨g, 1, none⟩) hN b1).setCell (p := ⟨g, 2, none⟩) hN b2
abbrev rcC (r : Rc) : Obj := .cells #[.int .i64 r.area, .int .i64 r.job, .int .i64 r.sex] TRc
theorem blk_at (w : World) (o : Obj) (n : Nat) (hn : w.heap.size = n) : (w.alloc o).heap[n]? = some o := by rw [← hn]; exact heap_alloc_new w o
theorem keepS {w : World} {g : Nat} {o o' : Obj} (h : w.heap[g]? = some o) : (w.alloc o').heap[g]? = some o := ((Below.refl w.heap.size w).alloc (Nat.le_refl _) o' |>.block g (Array.getElem?_eq_some_iff.1 h).1).trans h
set_option maxHeartbeats 2000000 in
theorem sABest_no (W : World) (l : List Pn) (v : Value) (hv : IsP W v l) (ll : List (List Int)) (u : Value) (hu : IsR W u ll) (k drop : Int) (hok : abOk l ll k = false) (w : World) (hb : Below W.heap.size W w) :
    Calls Try.prog 26 #[v, u, .int .i64 k, .int .i64 drop] w (Back (bestS none) W) := by
  have hd : adrop l ll rlow k = -1 := by
    refine adrop_no ?_
    cases hc : adOk l ll rlow k
    · rfl
    · obtain ⟨hg, k1, k2⟩ := ad_parts.1 hc
      have h2 := gr_parts.1 hg
      rw [ab_parts.2 ⟨h2.1, (rc_parts h2.2).1, k1, k2⟩] at hok; cases hok
  have HD := Lib.hid hd
  obtain ⟨W2, hW⟩ : ∃ W2, W2 = (w.alloc (.cells #[.int .i64 0, .int .i64 0, .int .i64 0] TRc)).alloc (.cells #[.int .i64 0, .int .i64 0, .int .i64 0] TRc) := ⟨_, rfl⟩
  have hR : W2.heap[w.heap.size]? = some (.cells #[.int .i64 0, .int .i64 0, .int .i64 0] TRc) := by rw [hW]; exact keepS (blk_at _ _ _ rfl)
  have hb2 : Below w.heap.size w W2 := by rw [hW]; exact ((Below.refl _ _).alloc (Nat.le_refl _) _).alloc (by simp) _
  have HB2 := Lib.hid hb2
  have hs2 : W2.heap.size = w.heap.size + 2 := by rw [hW]; simp
  have HS2 := Lib.hid hs2
  obtain ⟨W3, hW3⟩ : ∃ W3, W3 = W2.alloc (.cells #[.int .i64 0, .int .i64 0, .int .i64 0] TRc) := ⟨_, rfl⟩
  have hb3 : Below W2.heap.size W2 W3 := by rw [hW3]; exact (Below.refl _ _).alloc (Nat.le_refl _) _
  have HB3 := Lib.hid hb3
  have HV := Lib.hid ((hv.below hb).below (hb2.trans (hb3.mono hb2.size)))
  have HU := Lib.hid ((hu.below hb).below (hb2.trans (hb3.mono hb2.size)))
  have HBW := Lib.hid hb
  have HR := Lib.hid hR
  have HW := Lib.hid hW; have HW3 := Lib.hid hW3
  obtain ⟨Au, cu, hu2, _, _, _⟩ := hu
  subst hu2
  clear hW hW3 hR hb2 hb3 hs2 hd hv hb
  go_enter Try.func26, Try.ntmps26
  go_wp2
  rw [← HW.out]
  go_loopw [11, 12] (fun f i wr => i = .int .i64 0 ∧ W2 = wr) (fun _ _ _ => 0)
  case atStart => exact ⟨rfl, rfl⟩
  case round =>
    obtain ⟨rfl, rfl⟩ := hrel
    have hl0 : (0 : Int) ≤ (ll.length : Int) := by omega
    go_wp2
    go_loopw [11, 13] (fun f i wr => i = .int .i64 0 ∧ W2 = wr) (fun _ _ _ => 0)
    case atStart => exact ⟨rfl, rfl⟩
    case round =>
      obtain ⟨rfl, rfl⟩ := hrel
      go_wp2_with fail
      rw [← HW3.out]
      refine (sADrop_is W3 l v HV.out ll _ HU.out rlow k (-1) HD.out _ (Below.refl _ _)).mono ?_
      rintro e w4 ⟨rfl, h4⟩
      have hz := HS2.out
      have hz3 := HB3.out.size
      have hR4 := (h4.block w.heap.size (by omega)).trans ((HB3.out.block w.heap.size (by omega)).trans HR.out)
      obtain ⟨c0, c1, c2, f0, f1, f2⟩ := blkS hR4
      have HB4 := Lib.hid (HB2.out.trans ((HB3.out.trans (h4.mono HB3.out.size)).mono HB2.out.size))
      have HBX := Lib.hid (setS_below HB4.out (Nat.le_refl w.heap.size) (.int .i64 0) (.int .i64 0) (.int .i64 0))
      have hneg : (-1 : Int) < 0 := by omega
      clear h4 hR4
      go_wp2
      refine bodyPost_ret (v := bestS none) (by simp [results, Try.results26, go_sem, bestS, rlow, Rc.val, *]) rfl ?_
      exact ⟨rfl, HBW.out.trans (HBX.out.mono HBW.out.size)⟩
/-- What the model's loops hold: the best one so far in its block, zeros in the result's. -/
def SoFar (w : World) (q : Option Rc) (wr : World) : Prop := wr.heap[w.heap.size + 1]? = some (rcC (q.getD rlow)) ∧ wr.heap[w.heap.size]? = some (.cells #[.int .i64 0, .int .i64 0, .int .i64 0] TRc) ∧ Below w.heap.size w wr
theorem bstep_none {l : List Pn} {ll : List (List Int)} {k drop : Int} {r : Rc} (h : adrop l ll r k ≤ drop) : bstep l ll k drop none r = some r := by simp [bstep, betterB, h]
theorem bstep_far {l : List Pn} {ll : List (List Int)} {k drop : Int} {r : Rc} {q : Option Rc} (h : ¬ adrop l ll r k ≤ drop) : bstep l ll k drop q r = q := by simp [bstep, betterB, h]
theorem bstep_less {l : List Pn} {ll : List (List Int)} {k drop : Int} {r z : Rc} (h : adrop l ll r k ≤ drop) (h2 : acost ll r < acost ll z) : bstep l ll k drop (some z) r = some r := by simp [bstep, betterB, h, h2]
theorem bstep_more {l : List Pn} {ll : List (List Int)} {k drop : Int} {r z : Rc} (h2 : ¬ acost ll r < acost ll z) : bstep l ll k drop (some z) r = some z := by simp [bstep, betterB, h2]
set_option maxHeartbeats 4000000 in
theorem sABest_yes (W : World) (l : List Pn) (v : Value) (hv : IsP W v l) (ll : List (List Int)) (u : Value) (hu : IsR W u ll) (k drop : Int) (hok : abOk l ll k = true) (b : Option Rc) (hg : abest l ll k drop = b) (w : World) (hb : Below W.heap.size W w) :
    Calls Try.prog 26 #[v, u, .int .i64 k, .int .i64 drop] w (Back (bestS b) W) := by
  obtain ⟨h1, h2, k1, k2⟩ := ab_parts.1 hok
  have HE := Lib.hid (show bfold l ll k drop (rcsTo (ll.length + 1)) = b by rw [← hg, abest, if_pos hok]; rfl)
  have hl3 := lad_len h2
  have HLAD := Lib.hid h2
  have HD0 := Lib.hid (show ∀ r, rcOk ll r = true → 0 ≤ adrop l ll r k from fun r hr => by rw [adrop_at (ad_parts.2 ⟨gr_parts.2 ⟨h1, hr⟩, k1, k2⟩)]; omega)
  obtain ⟨W2, hW⟩ : ∃ W2, W2 = (w.alloc (.cells #[.int .i64 0, .int .i64 0, .int .i64 0] TRc)).alloc (.cells #[.int .i64 0, .int .i64 0, .int .i64 0] TRc) := ⟨_, rfl⟩
  have HS0 := Lib.hid (show SoFar w none W2 from ⟨by rw [hW]; exact blk_at _ _ _ (by simp), by rw [hW]; exact keepS (blk_at _ _ _ rfl), by rw [hW]; exact ((Below.refl _ _).alloc (Nat.le_refl _) _).alloc (by simp) _⟩)
  have HW := Lib.hid hW
  have HV := Lib.hid (hv.below hb)
  have HU := Lib.hid (hu.below hb)
  have HBW := Lib.hid hb
  obtain ⟨Au, cu, hu2, _, _, _⟩ := hu
  subst hu2
  obtain ⟨m, hm⟩ : ∃ m, ll.length = m := ⟨_, rfl⟩
  have HM := Lib.hid hm
  rw [hm] at hl3 HU HE ⊢
  clear hW hm h1 h2 k1 k2 hg hok hv hb
  go_enter Try.func26, Try.ntmps26
  go_wp2
  rw [← HW.out]
  go_loopw [11, 12] (fun f i wr => ∃ a : Nat, a ≤ m + 1 ∧ i = .int .i64 a ∧ ∃ q, bfold l ll k drop (rcsTo a) = q ∧ f = .bool q.isSome ∧ (∀ z, q = some z → rcOk ll z = true) ∧ SoFar w q wr) (fun _ i _ => m + 1 - (intOf i).toNat)
  case atStart => exact ⟨0, Nat.zero_le _, rfl, none, rfl, rfl, (fun z h => by cases h), HS0.out⟩
  case round =>
    clear HS0 HW
    obtain ⟨a, ha, rfl, q, hq, rfl, hqo, hsf⟩ := hrel
    have HQ := Lib.hid hq; have HQO := Lib.hid hqo; have HSF := Lib.hid hsf
    clear hq hqo hsf
    by_cases hla : a < m + 1
    · have hai : (a : Int) ≤ (m : Int) := by omega
      obtain ⟨f0, hf0⟩ : ∃ f0, q.isSome = f0 := ⟨_, rfl⟩
      have HF0 := Lib.hid hf0
      rw [hf0]
      clear hf0
      go_wp2
      go_loopw [11, 13] (fun f i wr => ∃ n : Nat, n ≤ 4 ∧ i = .int .i64 n ∧ ∃ q, bfold l ll k drop (pr a n) = q ∧ f = .bool q.isSome ∧ (∀ z, q = some z → rcOk ll z = true) ∧ SoFar w q wr) (fun _ i _ => 4 - (intOf i).toNat)
      case atStart => exact ⟨0, Nat.zero_le _, rfl, q, by rw [pr_zero]; exact HQ.out, by rw [HF0.out], HQO.out, HSF.out⟩
      case round =>
        clear HQ HQO HSF HF0
        obtain ⟨n, hn, rfl, q, hq, rfl, hqo, hsf⟩ := hrel
        have HQ := Lib.hid hq; have HQO := Lib.hid hqo; have HSF := Lib.hid hsf
        clear hq hqo hsf
        by_cases hln : n < 4
        · have hni : (n : Int) < 4 := by omega
          have hrok := pr_ok HLAD.out (a := a) (by rw [HM.out]; omega) hln
          have hst : bfold l ll k drop (pr a (n + 1)) = bstep l ll k drop q ⟨a, (n : Int) / 2, (n : Int) % 2⟩ := by rw [pr_succ a n hln, bfold_snoc, HQ.out]
          obtain ⟨j, hj⟩ : ∃ j : Int, (n : Int) / 2 = j := ⟨_, rfl⟩
          obtain ⟨s, hs⟩ : ∃ s : Int, (n : Int) % 2 = s := ⟨_, rfl⟩
          rw [hj, hs] at hrok hst
          have HST := Lib.hid hst
          have HRO := Lib.hid hrok
          have hd0 := HD0.out _ hrok
          obtain ⟨d, hd⟩ : ∃ d, adrop l ll ⟨a, j, s⟩ k = d := ⟨_, rfl⟩
          rw [hd] at hd0
          have HD := Lib.hid hd
          have hdn : ¬ d < 0 := by omega
          have hz1 : w.heap.size + 1 < wr.heap.size := (Array.getElem?_eq_some_iff.1 HSF.out.1).1
          obtain ⟨W4, hW4⟩ : ∃ W4, W4 = wr.alloc (.cells #[.int .i64 (a : Int), .int .i64 j, .int .i64 s] TRc) := ⟨_, rfl⟩
          have hb4 : Below wr.heap.size wr W4 := by rw [hW4]; exact (Below.refl _ _).alloc (Nat.le_refl _) _
          have hX4 : W4.heap[wr.heap.size]? = some (.cells #[.int .i64 (a : Int), .int .i64 j, .int .i64 s] TRc) := by rw [hW4]; exact heap_alloc_new _ _
          have hz4 := hb4.size
          have HB4 := Lib.hid (HSF.out.2.2.trans (hb4.mono (by omega)))
          have HBW4 := Lib.hid (HBW.out.trans (HB4.out.mono HBW.out.size))
          have HV4 := Lib.hid (HV.out.below HB4.out)
          have HU4 := Lib.hid (HU.out.below HB4.out)
          have HBB4 := Lib.hid ((hb4.block (w.heap.size + 1) hz1).trans HSF.out.1)
          have HRR4 := Lib.hid ((hb4.block w.heap.size (by omega)).trans HSF.out.2.1)
          have HX4 := Lib.hid hX4
          have hlt4 : wr.heap.size < W4.heap.size := (Array.getElem?_eq_some_iff.1 hX4).1
          have hn1 : ¬ wr.heap.size = w.heap.size + 1 := by omega
          have hn2 : ¬ w.heap.size + 1 = wr.heap.size := by omega
          clear hb4 hX4 hst hrok hd HSF
          go_wp2_with fail
          rw [← hW4]
          clear hW4 hj hs
          refine (sADrop_is W4 l v HV4.out ll _ HU4.out ⟨a, j, s⟩ k d HD.out _ (Below.refl _ _)).mono ?_
          rintro e w5 ⟨rfl, h5⟩
          have HX5 := Lib.hid ((h5.block _ hlt4).trans HX4.out)
          have HBB5 := Lib.hid ((h5.block (w.heap.size + 1) (by omega)).trans HBB4.out)
          have HRR5 := Lib.hid ((h5.block w.heap.size (by omega)).trans HRR4.out)
          have HB5 := Lib.hid (HB4.out.trans (h5.mono HB4.out.size))
          have hz5 := h5.size
          obtain ⟨x0, x1, x2, _, _, _⟩ := blkS HX5.out
          clear h5
          by_cases hdd : d ≤ drop
          · cases q with
            | none =>
              simp only [Option.isSome_none]
              have HST2 := Lib.hid (show bfold l ll k drop (pr a (n + 1)) = some ⟨(a : Int), j, s⟩ by rw [HST.out, bstep_none (by rw [HD.out]; exact hdd)])
              obtain ⟨y0, y1, y2, g0, g1, g2⟩ := blkS HBB5.out
              have HBB6 := Lib.hid (show ∀ q, _ from fun q => setS (w := w5.drewN q) HBB5.out (.int .i64 (a : Int)) (.int .i64 j) (.int .i64 s))
              have HRR6 := Lib.hid (show ∀ q, _ from fun q => (setS_far (w5.drewN q) (w.heap.size + 1) (.int .i64 (a : Int)) (.int .i64 j) (.int .i64 s) w.heap.size (by omega)).trans HRR5.out)
              have HB6 := Lib.hid (show ∀ q, _ from fun q => setS_below (below_draws HB5.out q) (show w.heap.size ≤ w.heap.size + 1 by omega) (.int .i64 (a : Int)) (.int .i64 j) (.int .i64 s))
              go_wp2
              go_quiet (fail)
              go_wp2
              go_roundw
              case rel => exact ⟨n + 1, by omega, by go_num, some ⟨(a : Int), j, s⟩, HST2.out, rfl, (fun z h => by cases h; exact HRO.out), HBB6.out _, HRR6.out _, HB6.out _⟩
              case measure => simp [intOf]; omega
            | some z =>
              simp only [Option.isSome_some]
              have hzok := HQO.out z rfl
              obtain ⟨cr, hcr⟩ : ∃ cr, acost ll ⟨(a : Int), j, s⟩ = cr := ⟨_, rfl⟩
              obtain ⟨cz, hcz⟩ : ∃ cz, acost ll z = cz := ⟨_, rfl⟩
              have HCR := Lib.hid hcr; have HCZ := Lib.hid hcz
              have hBB5 := HBB5.out
              simp only [Option.getD_some] at hBB5
              have HBBZ := Lib.hid hBB5
              obtain ⟨y0, y1, y2, _, _, _⟩ := blkS hBB5
              have HU5 := Lib.hid (HU.out.below HB5.out)
              have hltx : wr.heap.size < w5.heap.size := (Array.getElem?_eq_some_iff.1 HX5.out).1
              have hltb : w.heap.size + 1 < w5.heap.size := (Array.getElem?_eq_some_iff.1 hBB5).1
              have HF := Lib.hid (show ∀ y : World, Below w5.heap.size w5 y → (Below w5.heap.size w5 y ∧ (y.cell? ⟨wr.heap.size, 0, none⟩ = some (.int .i64 (a : Int)) ∧ y.cell? ⟨wr.heap.size, 1, none⟩ = some (.int .i64 j) ∧ y.cell? ⟨wr.heap.size, 2, none⟩ = some (.int .i64 s)) ∧ y.cell? ⟨w.heap.size + 1, 0, none⟩ = some (.int .i64 z.area) ∧ y.cell? ⟨w.heap.size + 1, 1, none⟩ = some (.int .i64 z.job) ∧ y.cell? ⟨w.heap.size + 1, 2, none⟩ = some (.int .i64 z.sex)) from
                fun y h => ⟨h, ⟨(h.cell (p := ⟨wr.heap.size, 0, none⟩) hltx).trans x0, (h.cell (p := ⟨wr.heap.size, 1, none⟩) hltx).trans x1, (h.cell (p := ⟨wr.heap.size, 2, none⟩) hltx).trans x2⟩, (h.cell (p := ⟨w.heap.size + 1, 0, none⟩) hltb).trans y0, (h.cell (p := ⟨w.heap.size + 1, 1, none⟩) hltb).trans y1, (h.cell (p := ⟨w.heap.size + 1, 2, none⟩) hltb).trans y2⟩)
              have bd : Below w5.heap.size w5 w5.drew := (Below.refl _ _).drew
              clear hcr hcz hBB5 x0 x1 x2 y0 y1 y2
              go_wp2
              go_region_held3 (fun y => Below w5.heap.size w5 y ∧ (y.cell? ⟨wr.heap.size, 0, none⟩ = some (.int .i64 (a : Int)) ∧ y.cell? ⟨wr.heap.size, 1, none⟩ = some (.int .i64 j) ∧ y.cell? ⟨wr.heap.size, 2, none⟩ = some (.int .i64 s)) ∧ y.cell? ⟨w.heap.size + 1, 0, none⟩ = some (.int .i64 z.area) ∧ y.cell? ⟨w.heap.size + 1, 1, none⟩ = some (.int .i64 z.job) ∧ y.cell? ⟨w.heap.size + 1, 2, none⟩ = some (.int .i64 z.sex))
                (first | exact HF.out _ (by assumption) | exact HF.out _ bd)
                (first
                  | (go_at_call 24
                     with_reducible refine (sACost_is w5 ll _ HU5.out ⟨(a : Int), j, s⟩ cr HCR.out _ bd).mono ?_
                     rintro e w6 ⟨rfl, b6⟩)
                  | (go_at_call 24
                     with_reducible refine (sACost_is w5 ll _ HU5.out z cz HCZ.out _ b6).mono ?_
                     rintro e w7 ⟨rfl, b7⟩))
              have HBB7 := Lib.hid ((b7.block (w.heap.size + 1) hltb).trans HBBZ.out)
              have HX7 := Lib.hid ((b7.block wr.heap.size hltx).trans HX5.out)
              have HRR7 := Lib.hid ((b7.block w.heap.size (by omega)).trans HRR5.out)
              have HB7 := Lib.hid (HB5.out.trans (b7.mono HB5.out.size))
              obtain ⟨x0, x1, x2, _, _, _⟩ := blkS HX7.out
              by_cases hcc : cr < cz
              · have HST2 := Lib.hid (show bfold l ll k drop (pr a (n + 1)) = some ⟨(a : Int), j, s⟩ by rw [HST.out, bstep_less (by rw [HD.out]; exact hdd) (by rw [HCR.out, HCZ.out]; exact hcc)])
                obtain ⟨y0, y1, y2, g0, g1, g2⟩ := blkS HBB7.out
                have HBB6 := Lib.hid (setS HBB7.out (.int .i64 (a : Int)) (.int .i64 j) (.int .i64 s))
                have HRR6 := Lib.hid ((setS_far w7 (w.heap.size + 1) (.int .i64 (a : Int)) (.int .i64 j) (.int .i64 s) w.heap.size (by omega)).trans HRR7.out)
                have HB6 := Lib.hid (setS_below HB7.out (show w.heap.size ≤ w.heap.size + 1 by omega) (.int .i64 (a : Int)) (.int .i64 j) (.int .i64 s))
                clear b6 b7 bd
                go_wp2
                go_roundw
                case rel => exact ⟨n + 1, by omega, by go_num, some ⟨(a : Int), j, s⟩, HST2.out, rfl, (fun z h => by cases h; exact HRO.out), HBB6.out, HRR6.out, HB6.out⟩
                case measure => simp [intOf]; omega
              · have HST2 := Lib.hid (show bfold l ll k drop (pr a (n + 1)) = some z by rw [HST.out, bstep_more (by rw [HCR.out, HCZ.out]; exact hcc)])
                clear b6 b7 bd x0 x1 x2
                go_wp2
                go_roundw
                case rel => exact ⟨n + 1, by omega, by go_num, some z, HST2.out, rfl, (fun y h => by cases h; exact hzok), HBB7.out, HRR7.out, HB7.out⟩
                case measure => simp [intOf]; omega
          · have HST2 := Lib.hid (show bfold l ll k drop (pr a (n + 1)) = q by rw [HST.out, bstep_far (by rw [HD.out]; exact hdd)])
            have hdf : decide (d ≤ drop) = false := decide_eq_false hdd
            obtain ⟨f1, hf1⟩ : ∃ f1, q.isSome = f1 := ⟨_, rfl⟩
            have HF1 := Lib.hid hf1
            rw [hf1]
            clear hf1
            go_wp2
            go_quiet (fail)
            go_wp2
            go_roundw
            case rel => exact ⟨n + 1, by omega, by go_num, q, HST2.out, by rw [HF1.out], HQO.out, HBB5.out, HRR5.out, below_draws HB5.out _⟩
            case measure => simp [intOf]; omega
        · obtain rfl : n = 4 := by omega
          obtain ⟨f1, hf1⟩ : ∃ f1, q.isSome = f1 := ⟨_, rfl⟩
          have HF1 := Lib.hid hf1
          rw [hf1]
          clear hf1
          go_wp2
          go_roundw
          case rel => exact ⟨a + 1, by omega, by go_num, q, by rw [← pr_four]; exact HQ.out, by rw [HF1.out], HQO.out, HSF.out⟩
          case measure => simp [intOf]; omega
    · have hai : ¬ (a : Int) ≤ (m : Int) := by omega
      obtain rfl : a = m + 1 := by omega
      have HEB := Lib.hid (show q = b by rw [← HQ.out, ← HE.out])
      obtain ⟨f1, hf1⟩ : ∃ f1, q.isSome = f1 := ⟨_, rfl⟩
      have HF1 := Lib.hid hf1
      rw [hf1]
      obtain ⟨z, hz⟩ : ∃ z, q.getD rlow = z := ⟨_, rfl⟩
      have HZ := Lib.hid hz
      have hB := HSF.out.1
      rw [hz] at hB
      obtain ⟨y0, y1, y2, _, _, _⟩ := blkS hB
      obtain ⟨c0, c1, c2, g0, g1, g2⟩ := blkS HSF.out.2.1
      have hz1 : w.heap.size + 1 < wr.heap.size := (Array.getElem?_eq_some_iff.1 hB).1
      have HBX := Lib.hid (setS_below HSF.out.2.2 (Nat.le_refl w.heap.size) (.int .i64 z.area) (.int .i64 z.job) (.int .i64 z.sex))
      clear hf1 hz hB
      go_wp2
      refine bodyPost_ret (v := .tuple #[z.val, .bool f1]) (by simp [results, Try.results26, go_sem, Rc.val, *]) rfl ?_
      refine ⟨?_, HBW.out.trans (HBX.out.mono HBW.out.size)⟩
      rw [← HEB.out, bestS, HF1.out, HZ.out]
theorem sABest_is (W : World) (l : List Pn) (v : Value) (hv : IsP W v l) (ll : List (List Int)) (u : Value) (hu : IsR W u ll) (k drop : Int) (b : Option Rc) (hg : abest l ll k drop = b) (w : World) (hb : Below W.heap.size W w) :
    Calls Try.prog 26 #[v, u, .int .i64 k, .int .i64 drop] w (Back (bestS b) W) := by
  cases hok : abOk l ll k
  · have e : b = none := by rw [← hg, abest, hok]; rfl
    rw [e]
    exact sABest_no W l v hv ll u hu k drop hok w hb
  · exact sABest_yes W l v hv ll u hu k drop hok b hg w hb
end Go.Proofs.Ytofobkamnolddaa
