/- Contracts of the program: the search for a ring. Contracts of the program: a ring is turned. Contracts of the program: the farthest number of a cell. Contracts of the program: a table as one that fits itself. Contracts of the program: the bounds of a cell. The model's bounds: told cells. Contracts of the program: told cells. -/
import Derived.Test.YtobgceebolmfcaaDoorIVA
import Derived.Deep.LoopGhost
import Derived.Test.YtobgceebolmfcaaDoorIMD
import Derived.Laws.CopyOwn
import Derived.Test.YtobgceebolmfcaaDoorBMB
import Derived.Test.YtobgceebolmfcaaDoorSBA
namespace Go.Proofs.YtobgceebolmfcaaDoor
open Go.RowKit Go.Shelf
theorem can_bd {x : Tb} {q d : Nat} (hx : ∀ k l, k < q → l < d → 0 ≤ cF x k l ∧ cF x k l ≤ 396) : Pos q d (cF x) := fun k l hk hl => (hx k l hk hl).1
theorem Dne.mono {q d : Nat} {h : Nat → Nat → Bool} {x : Tf} {i : Nat} {s0 : Int} {sn sn' : Nat → Nat → Bool} {n : Nd} (hd : Dne q d h x i s0 sn n) (hm : ∀ k c, k < q → c < d → sn k c = true → sn' k c = true) : Dne q d h x i s0 sn' n :=
  ⟨hd.1, fun k c hk hc ho hh h0 => hm k c hk hc (hd.2 k c hk hc ho hh h0)⟩
theorem no_ring {q d : Nat} {h : Nat → Nat → Bool} {x : Tf} {i j : Nat} {s0 : Int} (hx : Pos q d x) (hi : i < q) (hj : j < d) (hg : (h i j && decide (0 ≤ x i j + s0)) = false) : (s0 = 1 → ∀ z, FitF q d h x z → z i j ≤ x i j) ∧ (s0 = -1 → ∀ z, FitF q d h x z → x i j ≤ z i j) := by
  have h0 := hx i j hi hj
  cases hh : h i j
  · exact ⟨fun _ z hz => by rw [hz.off i j hi hj hh]; omega, fun _ z hz => by rw [hz.off i j hi hj hh]; omega⟩
  · rw [hh, Bool.true_and, decide_eq_false_iff_not] at hg
    exact ⟨fun e z hz => by omega, fun e z hz => by have := hz.pos i j hi hj; omega⟩
set_option maxRecDepth 100000 in
set_option maxHeartbeats 8000000 in
theorem iRing_is (W : World) (x : Tb) (v : Value) (hv : IsR W v x) (m : Mk) (u : Value) (hu : IsM W u m) (q d : Nat) (hS : Shp x m q d) (hx : ∀ k l, k < q → l < d → 0 ≤ cF x k l ∧ cF x k l ≤ 396) (i j : Nat) (hi : i < q) (hj : j < d) (s0 : Int) (hs : s0 = 1 ∨ s0 = -1) (w : World) (hb : Below W.heap.size W w) :
    Calls Tryd.prog 106 #[fitV q d v u, plV i j, .int .i64 s0] w (OutRing w q d (hF m) (cF x) i j s0) := by
  have HV := Lib.hid hv
  have HU := Lib.hid hu
  have HSH := Lib.hid hS
  have HX := Lib.hid hx
  have HB := Lib.hid hb
  have HS := Lib.hid hs
  have HPOS := Lib.hid (can_bd hx)
  have hq4 : q ≤ 4 := hS.q4
  have hd4 : d ≤ 4 := hS.d4
  obtain ⟨W2, hW, hb2, hz2, hf⟩ := two_fit w #[.int .i64 q, .int .i64 d, v, u] #[.int .i64 i, .int .i64 j] TF TPl
  have HW := Lib.hid hW.symm
  have HZ2 := Lib.hid hz2
  have HF := Lib.hid hf
  have HB2 := Lib.hid (hb.trans (hb2.mono hb.size))
  obtain ⟨Av, cv, hvv, _, _, _⟩ := id hv
  obtain ⟨Au, cu, huu, _, _, _⟩ := id hu
  rw [hS.tl] at hvv
  rw [hS.ml] at huu
  subst hvv huu
  obtain ⟨g, hg⟩ : ∃ g, (hF m i j && decide (0 ≤ cF x i j + s0)) = g := ⟨_, rfl⟩
  have HG := Lib.hid hg
  clear hv hu hS hx hb hs hW hb2 hz2 hf hg
  go_enter Tryd.func106, Tryd.ntmps106
  go_wp2_with fail
  rw [HW.out]
  refine (iCan_is W2 x _ (HV.out.below HB2.out) m _ (HU.out.below HB2.out) q d HSH.out i j hi hj s0 HS.out (HX.out i j hi hj) g HG.out W2 (Below.refl _ _)).mono ?_
  rintro e w1 ⟨rfl, h1⟩
  obtain ⟨f1, f2, f3⟩ := HF.out w1 h1
  have HF3 := Lib.hid f3
  cases g
  · clear f1 f2 f3 h1
    go_wp2
    refine bodyPost_ret (results_tmp2 rfl _ _ _) rfl ?_
    exact ⟨HF3.out, .inl ⟨rfl, no_ring HPOS.out hi hj HG.out⟩⟩
  have HINS := Lib.hid (show Ins q d (hF m) (cF x) ⟨i, j, s0⟩ by
    have := HG.out
    rw [Bool.and_eq_true, decide_eq_true_eq] at this
    exact ⟨hi, hj, this.1, this.2, HS.out⟩)
  obtain ⟨p0, p1, _, _⟩ := blkF f1
  have HF1 := Lib.hid h1
  clear f1 f2 f3 h1
  go_wp2_with fail
  refine (iNewM_any q d hq4 hd4 w1).mono ?_
  rintro e w2 ⟨g2, c2, rfl, hm2, hb2⟩
  obtain ⟨B, hBB⟩ : ∃ B, w1.heap.size = B := ⟨_, rfl⟩
  obtain ⟨T, hTT⟩ : ∃ T, w2.heap.size = T := ⟨_, rfl⟩
  have hwB : w.heap.size + 2 ≤ B := by have := HZ2.out; have := HF1.out.size; omega
  have hBT : B ≤ T := by have := hb2.size; omega
  rw [hBB] at hm2
  rw [hTT] at hm2
  have HM2 := Lib.hid hm2
  have HBW2 := Lib.hid (HF1.out.trans (hb2.mono HF1.out.size))
  have HTT := Lib.hid hTT
  have HBB := Lib.hid hBB
  clear p0 p1 hm2 hb2 hTT hBB
  obtain ⟨w3, hw3, b3, hz3, k3⟩ := one_blk w2 #[.int .i64 q, .int .i64 d, .slice (some ⟨g2, 0, none⟩) q c2] TGB
  rw [HTT.out] at hz3 k3
  have HW3 := Lib.hid hw3.symm
  have HK3 := Lib.hid k3
  have HB3 := Lib.hid (HBW2.out.trans (b3.mono HBW2.out.size))
  have HM3 := Lib.hid (HM2.out.below b3)
  have HZ3 := Lib.hid hz3
  obtain ⟨f1, f2, f3⟩ := HF.out w3 HB3.out
  obtain ⟨q0, q1, _, _⟩ := blk2 f2
  obtain ⟨s0', s1', s2', _, _, _⟩ := blkG3 k3
  obtain ⟨g', c', gi, ci, hv', m0, _, hgi, _, m1, mf, hset⟩ := HM3.out.cell (i := i) (j := j) (by rw [(sq_zero q d).1]; exact hi) (by rw [(sq_zero q d).2 i hi]; exact hj)
  injection hv' with hv1 hv2 hv3
  injection hv1 with hv1
  injection hv1 with hv1 _ _
  subst hv1 hv3
  rw [(sq_zero q d).2 i hi] at m0
  have HSET := Lib.hid (hset true)
  have HGI := Lib.hid hgi
  have HFB := Lib.hid f1
  have HPB := Lib.hid f2
  have HF3' := Lib.hid f3
  have hii : (i : Int) < (q : Int) := by omega
  have hji : (j : Int) < (d : Int) := by omega
  clear hw3 b3 hz3 k3 f1 f2 f3 hset hgi hv2
  go_wp2
  rw [HW3.out, HTT.out]
  refine wp_region_still_tail 9 (by kernel_rfl) (by kernel_rfl) ?_
  simp only [List.take_succ_cons, List.take_zero, List.drop_succ_cons, List.drop_zero]
  repeat still_step
  try refine wpStill_nil ?_
  change wpList _ _ _ _ _ w3.drew
  obtain ⟨y3, hy3⟩ : ∃ y3, y3 = w3.drew := ⟨_, rfl⟩
  rw [← hy3]
  obtain ⟨w4, hw4⟩ : ∃ w4, w4 = y3.setCell ⟨gi, j, none⟩ (.bool true) := ⟨_, rfl⟩
  have c1' : y3.cell? ⟨gi, j, none⟩ = some (.bool (((List.replicate q (zerowM d)).getD i []).getD j false)) := by rw [hy3]; exact m1
  have cf' : y3.frozen? ⟨gi, j, none⟩ = false := by rw [hy3]; exact mf
  obtain ⟨sm, hsm⟩ : ∃ sm, sm = (List.replicate q (zerowM d)).set i (((List.replicate q (zerowM d)).getD i []).set j true) := ⟨_, rfl⟩
  have hsq : Sq sm q d := by rw [hsm]; exact (sq_zero q d).set hi
  have hst : Sr q d (hF m) (cF x) i j s0 [⟨T + 2, ⟨i, j, s0⟩, []⟩] (hF sm) := Sr.start (T + 2) HINS.out fun k c hk hc => by
    rw [hsm, hF_set (by simpa using hi) (by rw [(sq_zero q d).2 i hi]; exact hj), hF_zero]
    simp
  have m4 : MineB w4 B T (.slice (some ⟨g2, 0, none⟩) q c2) sm := by rw [hw4, hy3, hsm]; exact HSET.out
  have g1 := HGI.out.1
  have g2' := HGI.out.2
  have ne4 : ∀ k, k ≠ gi → w4.heap[k]? = w3.heap[k]? := fun k hk => by rw [hw4, hy3]; exact Below.heap_setCell w3.drew ⟨gi, j, none⟩ _ k hk
  have z4 : w4.heap.size = T + 1 := by rw [hw4, hy3]; simp [World.setCell]; exact HZ3.out
  have l4 : Below w.heap.size w w4 := by rw [hw4, hy3]; exact HF3'.out.drew.setCell (p := ⟨gi, j, none⟩) (by show w.heap.size ≤ gi; omega) _
  obtain ⟨w5, hw5⟩ : ∃ w5, w5 = w4.alloc (.cells #[.slice none 0 0] TQ) := ⟨_, rfl⟩
  obtain ⟨w6, hw6⟩ : ∃ w6, w6 = w5.alloc (visO ⟨i, j, s0⟩ (ptV none)) := ⟨_, rfl⟩
  have b5 : Below w4.heap.size w4 w5 := by rw [hw5]; exact (Below.refl _ _).alloc (Nat.le_refl _) _
  have b6 : Below w5.heap.size w5 w6 := by rw [hw6]; exact (Below.refl _ _).alloc (Nat.le_refl _) _
  have z5 : w5.heap.size = T + 2 := by rw [hw5]; simp; omega
  have z6 : w6.heap.size = T + 3 := by rw [hw6]; simp; omega
  have k5 : w5.heap[T + 1]? = some (.cells #[.slice none 0 0] TQ (0, 0)) := by rw [hw5, ← z4]; exact heap_alloc_new _ _
  have k6 : w6.heap[T + 2]? = some (visO ⟨i, j, s0⟩ (ptV none)) := by rw [hw6, ← z5]; exact heap_alloc_new _ _
  have b46 : Below w4.heap.size w4 w6 := b5.trans (b6.mono b5.size)
  have old : ∀ {k : Nat} {o : Obj}, k < T + 1 → k ≠ gi → w3.heap[k]? = some o → w6.heap[k]? = some o := fun h1 h2 h3 => (b46.block _ (by omega)).trans ((ne4 _ h2).trans h3)
  have HRM := Lib.hid (show RM w B T q d i j (.slice Av q cv) (.slice Au q cu) (.slice (some ⟨g2, 0, none⟩) q c2) sm (.slice none 0 0) [⟨T + 2, ⟨i, j, s0⟩, []⟩] [] w6 from
    ⟨l4.trans (b46.mono l4.size), old (by omega) (by omega) HFB.out, old (by omega) (by omega) HPB.out, old (by omega) (by omega) HK3.out, m4.below b46, ⟨(b6.block _ (by omega)).trans k5, QRow.nil _ _, by intro e; cases e⟩, fun n hn => by
      rw [List.mem_singleton.1 hn]; exact ⟨k6, Nat.le_refl _, by intro e; cases e⟩, hwB, hBT⟩)
  have HSR := Lib.hid hst
  have HSQ := Lib.hid hsq
  have r0 : w5.cell? ⟨w.heap.size + 1, 0, none⟩ = some (.int .i64 i) := (blk2 ((b5.block _ (by omega)).trans ((ne4 _ (by omega)).trans HPB.out))).1
  have r1 : w5.cell? ⟨w.heap.size + 1, 1, none⟩ = some (.int .i64 j) := (blk2 ((b5.block _ (by omega)).trans ((ne4 _ (by omega)).trans HPB.out))).2.1
  have HZ4 := Lib.hid z4
  have HZ5 := Lib.hid z5
  have HZ6 := Lib.hid z6
  have HW4 := Lib.hid hw4.symm
  have HW5 := Lib.hid hw5.symm
  have HW6 := Lib.hid (show w5.alloc (.cells #[.int .i64 i, .int .i64 j, .int .i64 s0, .pointer none] TV) = w6 from hw6.symm)
  rw [← HW5.out, ← HW4.out] at r0 r1
  have hz : y3.heap.size = T + 1 := by rw [hy3]; exact HZ3.out
  clear q0 q1 s0' s1' s2' m0 m1 mf hsm hsq hst m4 g1 g2' ne4 z4 l4 hw4 hw5 hw6 b5 b6 z5 z6 k5 k6 b46 old hy3
  go_wp2_with fail
  rw [HW4.out, HW5.out, HW6.out]
  refine (iPut_is w6 (T + 2) (T + 1) (.slice none 0 0) [] HRM.out.qu (by simp) (by rw [HZ6.out]; omega) (some (T + 2))).mono ?_
  rintro e w7 ⟨rfl, vq7, hp7⟩
  have HR7 := Lib.hid (HRM.out.sameq (pend' := [⟨T + 2, ⟨i, j, s0⟩, []⟩]) hp7)
  clear hp7 r0 r1 c1' cf' hz HRM HW4 HW5 HW6 HZ4 HZ5 HZ6 HW3 HSET HGI HFB HPB HF3' HK3 HB3 HM3 HZ3 HM2 HBW2 HTT HBB y3 w4 w5 w6
  go_wp2_with fail
  refine (iTake_is w7 (T + 2) (T + 1) vq7 [⟨T + 2, ⟨i, j, s0⟩, []⟩] HR7.out.qu (by simp)).mono ?_
  rintro e w8 (⟨h0, _⟩ | ⟨n, r, hnr, rfl, vq8, hp8⟩)
  · cases h0
  injection hnr with h1 h2
  subst h1 h2
  have HL := Lib.hid (show RL w B T q d i j (.slice Av q cv) (.slice Au q cu) (.slice (some ⟨g2, 0, none⟩) q c2) (hF m) (cF x) s0 20 (.pointer (some ⟨T + 2, 0, none⟩)) (.bool true) w8 from
    ⟨sm, vq8, [], HSQ.out, by simp, .inr ⟨⟨T + 2, ⟨i, j, s0⟩, []⟩, [], rfl, rfl, by simp, HR7.out.sameq hp8, HSR.out⟩⟩)
  clear hp8 HR7 HSR HSQ
  go_wp2
  go_loopg [10, 11] 20 (fun k last ok wr => RL w B T q d i j (.slice Av q cv) (.slice Au q cu) (.slice (some ⟨g2, 0, none⟩) q c2) (hF m) (cF x) s0 k last ok wr)
  case atStart => exact HL.out
  case round =>
    clear HL
    obtain ⟨sm, vq, don, hsq, hdn, ⟨rfl, rfl, hrm, hsr⟩ | ⟨n, pend, rfl, rfl, hk, hrm, hsr⟩⟩ := hrel
    · have HRM := Lib.hid hrm
      have HDN := Lib.hid hdn
      have HSR := Lib.hid hsr
      clear hsq hdn hrm hsr
      go_wp2
      refine bodyPost_ret (results_tmp2 rfl _ _ _) rfl ?_
      refine ⟨HRM.out.low, .inl ⟨rfl, fun e => ?_, fun e => ?_⟩⟩
      · subst e; exact HSR.out.high HDN.out hi hj HPOS.out
      · subst e; exact HSR.out.low HDN.out hi hj HPOS.out
    · have HNM := Lib.hid (show n ∈ don ++ n :: pend by simp)
      have HSQ := Lib.hid hsq
      have HRM := Lib.hid hrm
      have HSR := Lib.hid hsr
      have HDN := Lib.hid hdn
      have HK := Lib.hid hk
      obtain ⟨v0, _, v2, _⟩ := blkF (hrm.nd n HNM.out).1
      obtain ⟨q0, _, _, _⟩ := blk2 hrm.pb
      obtain ⟨p0, p1, p2, p3⟩ := blkF hrm.fb
      have hsv := (hsr.head HNM.out).1.2.2.2.2
      have HSV := Lib.hid hsv
      clear hsq hdn hrm hsr hk hsv
      by_cases e1 : n.v.s = s0
      · have hb1 : (n.v.s != s0) = false := by simp [e1]
        have hout : ¬ (n.v.s ≠ s0 ∧ n.v.r = i) := fun h => h.1 e1
        have HE1 := Lib.hid e1
        clear e1
        go_wp2
        go_quiet (fail)
        clear hb1
        have HOUT := Lib.hid hout
        clear hout
        obtain ⟨y0, hy0⟩ : ∃ y0, y0 = wr.drewN nq := ⟨_, rfl⟩
        have HR0 := Lib.hid (show RM w B T q d i j (.slice Av q cv) (.slice Au q cu) (.slice (some ⟨g2, 0, none⟩) q c2) sm vq (don ++ n :: pend) pend y0 by rw [hy0]; exact HRM.out.below (below_draws (Below.refl _ _) nq))
        rw [← hy0]
        clear hy0 p0 p1 p2 p3 v0 v2 q0 HRM
        obtain ⟨p0, p1, p2, p3⟩ := blkF HR0.out.fb
        go_wp2_with fail
        refine (iOnw_is y0 q d hq4 hd4 (.slice Av q cv) (.slice Au q cu) n.blk n.v _ (HR0.out.nd n HNM.out).1 s0).mono ?_
        rintro e w5 ⟨gp, rfl, hgp, hgp2, hpl, hb5⟩
        clear p0 p1 p2 p3
        obtain ⟨N, hN⟩ : ∃ N, onN q d s0 n.v = N := ⟨_, rfl⟩
        rw [hN] at hpl ⊢
        have hN4 : N ≤ 4 := by rw [← hN]; exact onN_le hq4 hd4 s0 n.v
        have HN := Lib.hid hN
        have HR5 := Lib.hid (HR0.out.below hb5)
        have HPL := Lib.hid hpl
        have hTg : T + 2 ≤ gp := by have := HR0.out.qu.lt; omega
        have HGQ := Lib.hid (show vq.ownBlock ≠ some gp from fun e => by have := (HR0.out.qu.row.ob gp e).2; omega)
        obtain ⟨og, hog⟩ : ∃ og, w5.heap[gp]? = some og := ⟨_, Array.getElem?_eq_getElem hgp2⟩
        have HOG := Lib.hid hog
        clear hN hgp hgp2 hpl hb5 HR0 hog
        go_wp2
        go_loopw [68] (fun a wr2 => ∃ (idx : Nat) (sm : Mk) (vq : Value) (pend : List Nd), a = .int .i64 idx ∧ idx ≤ N ∧ Sq sm q d ∧ RM w B T q d i j (.slice Av q cv) (.slice Au q cu) (.slice (some ⟨g2, 0, none⟩) q c2) sm vq (don ++ n :: pend) pend wr2 ∧ Sr q d (hF m) (cF x) i j s0 (don ++ n :: pend) (hF sm) ∧ (∀ n' ∈ don, Dne q d (hF m) (cF x) i s0 (hF sm) n') ∧ (∀ t, t < idx → hF m (onF s0 n.v t).1 (onF s0 n.v t).2 = true → 0 ≤ cF x (onF s0 n.v t).1 (onF s0 n.v t).2 + -n.v.s → hF sm (onF s0 n.v t).1 (onF s0 n.v t).2 = true) ∧ vq.ownBlock ≠ some gp ∧ wr2.heap[gp]? = some og) (fun a _ => N - (intOf a).toNat)
        case atStart => exact ⟨0, sm, vq, pend, rfl, Nat.zero_le _, HSQ.out, HR5.out, HSR.out, HDN.out, fun t ht => absurd ht (by omega), HGQ.out, HOG.out⟩
        case round =>
          clear HR5 HGQ HSQ HSR HDN HNM
          obtain ⟨idx, sm, vq, pend, rfl, hidx, hsq, hrm, hsr, hdn, hlk, hgq, hgh⟩ := hrel
          have HNM := Lib.hid (show n ∈ don ++ n :: pend by simp)
          have HSQ := Lib.hid hsq
          have HRM := Lib.hid hrm
          have HSR := Lib.hid hsr
          have HDN := Lib.hid hdn
          have HLK := Lib.hid hlk
          have HGQ := Lib.hid hgq
          have HGH := Lib.hid hgh
          have HLE := Lib.hid (show (don ++ n :: pend).length ≤ 16 from Nat.le_trans hsr.le (Nat.mul_le_mul hq4 hd4))
          clear hsq hrm hsr hdn hlk hgq hgh
          by_cases hlt : idx < N
          · have hii : (idx : Int) < (N : Int) := by omega
            obtain ⟨k, hk⟩ : ∃ k, (onF s0 n.v idx).1 = k := ⟨_, rfl⟩
            obtain ⟨c, hc⟩ : ∃ c, (onF s0 n.v idx).2 = c := ⟨_, rfl⟩
            obtain ⟨hkq, hcd, how⟩ := onF_in (q := q) (d := d) (s0 := s0) (v := n.v) (HSR.out.head HNM.out).1.1 (HSR.out.head HNM.out).1.2.1 (i := idx) (by rw [HN.out]; exact hlt)
            rw [hk] at hkq how
            rw [hc] at hcd how
            obtain ⟨l0, l1⟩ := HPL.out idx hlt
            rw [← World.cell?_of_block (w := w5) (w' := wr) (a := ⟨gp, idx * 2, none⟩) (HGH.out.trans HOG.out.symm), hk] at l0
            rw [← World.cell?_of_block (w := w5) (w' := wr) (a := ⟨gp, idx * 2 + 1, none⟩) (HGH.out.trans HOG.out.symm), hc] at l1
            have HK := Lib.hid hk
            have HC := Lib.hid hc
            have HOW := Lib.hid how
            obtain ⟨y1, hy1, b1, z1, k1⟩ := one_blk wr #[.int .i64 k, .int .i64 c] TPl
            have HY1 := Lib.hid hy1.symm
            have HR1 := Lib.hid (HRM.out.below b1)
            obtain ⟨t0, t1, _, _⟩ := blk2 k1
            obtain ⟨_, _, s2, _, _, _⟩ := blkG3 HR1.out.sb
            have HKP := Lib.hid (show ∀ X, Below y1.heap.size y1 X → X.cell? ⟨wr.heap.size, 0, none⟩ = some (.int .i64 k) ∧ X.cell? ⟨wr.heap.size, 1, none⟩ = some (.int .i64 c) from fun X h => by
              obtain ⟨a0, a1, _, _⟩ := blk2 ((h.block wr.heap.size (by omega)).trans k1)
              exact ⟨a0, a1⟩)
            have HG1 := Lib.hid (show y1.heap[gp]? = some og from (b1.block gp (Array.getElem?_eq_some_iff.1 HGH.out).1).trans HGH.out)
            obtain ⟨g', c', gi, ci, hv', m0, _, hgi, _, m1, mf, hset⟩ := HR1.out.sn.cell (i := k) (j := c) (by rw [HSQ.out.1]; exact hkq) (by rw [HSQ.out.2 k hkq]; exact hcd)
            injection hv' with hv1 hv2 hv3
            injection hv1 with hv1
            injection hv1 with hv1 _ _
            subst hv1 hv3
            rw [HSQ.out.2 k hkq] at m0
            obtain ⟨fl, hfl⟩ : ∃ fl, (sm.getD k []).getD c false = fl := ⟨_, rfl⟩
            rw [hfl] at m1
            have HFL := Lib.hid (show hF sm k c = fl from hfl)
            have hki : (k : Int) < (q : Int) := by omega
            have hci : (c : Int) < (d : Int) := by omega
            clear hk hc how hy1 b1 z1 k1 hv2 hfl hset hgi mf
            cases fl
            · obtain ⟨p0, p1, p2, p3⟩ := blkF HR1.out.fb
              obtain ⟨_, _, v2, _⟩ := blkF (HR1.out.nd n HNM.out).1
              have hsw : IntKind.i64.wrap (-n.v.s) = -n.v.s := by have := HSV.out; rw [IntKind.wrap_i64] <;> omega
              go_wp2
              rw [HY1.out]
              refine wp_region_still_tail 19 (by kernel_rfl) (by kernel_rfl) ?_
              simp only [List.take_succ_cons, List.take_zero, List.drop_succ_cons, List.drop_zero]
              iterate 19 still_step
              refine wpStill_nil ?_
              change wpList _ _ _ _ _ y1.drew
              obtain ⟨y2, hy2⟩ : ∃ y2, y2 = y1.drew := ⟨_, rfl⟩
              rw [← hy2]
              have HB12 := Lib.hid (show Below y1.heap.size y1 y2 by rw [hy2]; exact (Below.refl _ _).drew)
              have HR2 := Lib.hid (HR1.out.below HB12.out)
              have HBW := Lib.hid (HB.out.trans (HR2.out.low.mono HB.out.size))
              clear p0 p1 p2 p3 v2 m0 m1 t0 t1 s2 l0 l1 hy2
              obtain ⟨gc, hgc⟩ : ∃ gc, (hF m k c && decide (0 ≤ cF x k c + -n.v.s)) = gc := ⟨_, rfl⟩
              have HGC := Lib.hid hgc
              clear hgc
              go_wp2_with fail
              refine (iCan_is y2 x _ (HV.out.below HBW.out) m _ (HU.out.below HBW.out) q d HSH.out k c hkq hcd (-n.v.s) (by have := HSV.out; omega) (HX.out k c hkq hcd) gc HGC.out y2 (Below.refl _ _)).mono ?_
              rintro e y3 ⟨rfl, h3⟩
              have HB13 := Lib.hid (HB12.out.trans (h3.mono HB12.out.size))
              have HR3 := Lib.hid (HR2.out.below h3)
              have HG3 := Lib.hid (show y3.heap[gp]? = some og from (HB13.out.block gp (Array.getElem?_eq_some_iff.1 HG1.out).1).trans HG1.out)
              clear h3 HR2 hsw
              cases gc
              · go_wp2
                go_roundw
                case rel => exact ⟨idx + 1, sm, vq, pend, by go_num, by omega, HSQ.out, HR3.out, HSR.out, HDN.out, fun t ht hh h0 => by
                  by_cases e : t = idx
                  · have hg := HGC.out
                    rw [e, HK.out, HC.out] at hh h0
                    rw [hh, Bool.true_and, decide_eq_false_iff_not] at hg
                    exact absurd h0 hg
                  · exact HLK.out t (by omega) hh h0, HGQ.out, HG3.out⟩
                case measure => simp [intOf]; omega
              · have hgc := HGC.out
                rw [Bool.and_eq_true, decide_eq_true_eq] at hgc
                obtain ⟨hgc1, hgc2⟩ := hgc
                have HG21 := Lib.hid hgc1
                have HG22 := Lib.hid hgc2
                obtain ⟨_, _, s2, _, _, _⟩ := blkG3 HR3.out.sb
                obtain ⟨t0, t1⟩ := HKP.out y3 HB13.out
                obtain ⟨g', c', gi, ci, hv', m0, _, hgi, _, m1, mf, hset⟩ := HR3.out.sn.cell (i := k) (j := c) (by rw [HSQ.out.1]; exact hkq) (by rw [HSQ.out.2 k hkq]; exact hcd)
                injection hv' with hv1 hv2 hv3
                injection hv1 with hv1
                injection hv1 with hv1 _ _
                subst hv1 hv3
                rw [HSQ.out.2 k hkq] at m0
                obtain ⟨fl, hfl⟩ : ∃ fl, (sm.getD k []).getD c false = fl := ⟨_, rfl⟩
                rw [hfl] at m1
                have HSET := Lib.hid (hset true)
                have HGI := Lib.hid hgi
                clear hv2 hset hgi hfl hgc1 hgc2
                go_wp2
                refine wp_region_still_tail 9 (by kernel_rfl) (by kernel_rfl) ?_
                simp only [List.take_succ_cons, List.take_zero, List.drop_succ_cons, List.drop_zero]
                iterate 9 still_step
                refine wpStill_nil ?_
                change wpList _ _ _ _ _ y3.drew
                obtain ⟨y4, hy4⟩ : ∃ y4, y4 = y3.drew := ⟨_, rfl⟩
                rw [← hy4]
                have c1' : y4.cell? ⟨gi, c, none⟩ = some (.bool fl) := by rw [hy4]; exact m1
                have cf' : y4.frozen? ⟨gi, c, none⟩ = false := by rw [hy4]; exact mf
                obtain ⟨y5, hy5⟩ : ∃ y5, y5 = y4.setCell ⟨gi, c, none⟩ (.bool true) := ⟨_, rfl⟩
                have HR4 := Lib.hid (show RM w B T q d i j (.slice Av q cv) (.slice Au q cu) (.slice (some ⟨g2, 0, none⟩) q c2) sm vq (don ++ n :: pend) pend y4 by rw [hy4]; exact HR3.out.below (Below.refl _ _).drew)
                have HR5 := Lib.hid (show RM w B T q d i j (.slice Av q cv) (.slice Au q cu) (.slice (some ⟨g2, 0, none⟩) q c2) (sm.set k ((sm.getD k []).set c true)) vq (don ++ n :: pend) pend y5 by
                  rw [hy5]; exact HR4.out.mark HGI.out (by rw [hy4]; exact HSET.out))
                have ne5 : ∀ a, a ≠ gi → y5.heap[a]? = y3.heap[a]? := fun a ha => by rw [hy5, hy4]; exact Below.heap_setCell y3.drew ⟨gi, c, none⟩ _ a ha
                have hwr : T + 2 ≤ wr.heap.size := by have := HRM.out.qu.lt; omega
                have g2' := HGI.out.2
                obtain ⟨o3, ho3⟩ : ∃ o, y3.heap[wr.heap.size]? = some o := by
                  have h := t0
                  unfold World.cell? at h
                  cases e9 : y3.heap[wr.heap.size]? with
                  | none => simp [e9] at h
                  | some o => exact ⟨o, rfl⟩
                have HG5 := Lib.hid (show y5.heap[gp]? = some og from (ne5 gp (by omega)).trans HG3.out)
                have u0 : y5.cell? ⟨wr.heap.size, 0, none⟩ = some (.int .i64 k) := (World.cell?_of_block (a := ⟨wr.heap.size, 0, none⟩) (ne5 wr.heap.size (by omega))).trans t0
                have u1 : y5.cell? ⟨wr.heap.size, 1, none⟩ = some (.int .i64 c) := (World.cell?_of_block (a := ⟨wr.heap.size, 1, none⟩) (ne5 wr.heap.size (by omega))).trans t1
                obtain ⟨_, _, v2, _⟩ := blkF (HR5.out.nd n HNM.out).1
                have HY5 := Lib.hid hy5.symm
                have hsw : IntKind.i64.wrap (-n.v.s) = -n.v.s := by have := HSV.out; rw [IntKind.wrap_i64] <;> omega
                clear m0 m1 mf t0 t1 s2 hy4 ne5 g2' ho3 hy5 HR4 HSET HR3
                go_wp2
                rw [HY5.out]
                refine wp_region_still_tail 8 (by kernel_rfl) (by kernel_rfl) ?_
                simp only [List.take_succ_cons, List.take_zero, List.drop_succ_cons, List.drop_zero]
                iterate 8 still_step
                refine wpStill_nil ?_
                change wpList _ _ _ _ _ y5.drew
                obtain ⟨y6, hy6⟩ : ∃ y6, y6 = y5.drew := ⟨_, rfl⟩
                rw [← hy6]
                obtain ⟨y7, hy7⟩ : ∃ y7, y7 = y6.alloc (.cells #[.int .i64 k, .int .i64 c, .int .i64 (-n.v.s), .pointer (some ⟨n.blk, 0, none⟩)] TV) := ⟨_, rfl⟩
                have b56 : Below y5.heap.size y5 y6 := by rw [hy6]; exact (Below.refl _ _).drew
                have b67 : Below y6.heap.size y6 y7 := by rw [hy7]; exact (Below.refl _ _).alloc (Nat.le_refl _) _
                have k7 : y7.heap[y6.heap.size]? = some (visO ⟨k, c, -n.v.s⟩ (ptV (some n.blk))) := by rw [hy7]; exact heap_alloc_new _ _
                have HR6 := Lib.hid (HR5.out.below b56)
                have hT6 : T + 2 ≤ y6.heap.size := by have := HR6.out.qu.lt; omega
                obtain ⟨nw, hnw⟩ : ∃ nw : Nd, nw = ⟨y6.heap.size, ⟨k, c, -n.v.s⟩, n.chain⟩ := ⟨_, rfl⟩
                have HR7 := Lib.hid (show RM w B T q d i j (.slice Av q cv) (.slice Au q cu) (.slice (some ⟨g2, 0, none⟩) q c2) (sm.set k ((sm.getD k []).set c true)) vq ((don ++ n :: pend) ++ [nw]) pend y7 from (HR6.out.below b67).more (by rw [hnw]; exact k7) (by rw [hnw]; exact hT6) (by rw [hnw]; exact fun e => by have := (HR6.out.qu.row.ob y6.heap.size e).2; omega))
                have HG7 := Lib.hid (show y7.heap[gp]? = some og from (b67.block gp (Array.getElem?_eq_some_iff.1 ((b56.block gp (Array.getElem?_eq_some_iff.1 HG5.out).1).trans HG5.out)).1).trans ((b56.block gp (Array.getElem?_eq_some_iff.1 HG5.out).1).trans HG5.out))
                have HSR7 := Lib.hid (show Sr q d (hF m) (cF x) i j s0 ((don ++ n :: pend) ++ [nw]) (hF (sm.set k ((sm.getD k []).set c true))) by
                  rw [hnw]
                  exact HSR.out.add HNM.out y6.heap.size hkq hcd HOW.out HFL.out HG21.out HG22.out fun k' c' _ _ => hF_set (by rw [HSQ.out.1]; exact hkq) (by rw [HSQ.out.2 k hkq]; exact hcd) k' c')
                have HMO := Lib.hid (show ∀ k' c', hF sm k' c' = true → hF (sm.set k ((sm.getD k []).set c true)) k' c' = true from fun k' c' hh => by
                  rw [hF_set (by rw [HSQ.out.1]; exact hkq) (by rw [HSQ.out.2 k hkq]; exact hcd)]; split; rfl; exact hh)
                have HME := Lib.hid (show hF (sm.set k ((sm.getD k []).set c true)) k c = true by
                  rw [hF_set (by rw [HSQ.out.1]; exact hkq) (by rw [HSQ.out.2 k hkq]; exact hcd), if_pos ⟨rfl, rfl⟩])
                have HY7 := Lib.hid hy7.symm
                have HNW := Lib.hid (show nw.blk = y6.heap.size by rw [hnw])
                have hle := HLE.out
                have HPL9 := Lib.hid (show pend.length ≤ 16 by simp at hle; omega)
                have HT7 := Lib.hid (show T + 2 ≤ y7.heap.size from Nat.le_trans hT6 b67.size)
                clear hle u0 u1 v2 c1' cf' b56 b67 k7 hT6 hnw hy7 hy6 HR6 HR5 hsw
                go_wp2_with fail
                rw [HY7.out]
                refine (iPut_is y7 (T + 2) (T + 1) vq (pend.map fun n => ptV (some n.blk)) HR7.out.qu (by rw [List.length_map]; have := HPL9.out; omega) HT7.out (some y6.heap.size)).mono ?_
                rintro e y8 ⟨rfl, vq8, hp8⟩
                have HP8 := Lib.hid hp8
                have HR8 := Lib.hid (HR7.out.sameq (pend' := pend ++ [nw]) (by rw [List.map_append]; show QPut y7 y8 (T + 2) (T + 1) vq vq8 (_ ++ [ptV (some nw.blk)]); rw [HNW.out]; exact hp8))
                clear hp8 HR7
                go_wp2
                go_roundw
                case rel =>
                  have eL : (don ++ n :: pend) ++ [nw] = don ++ n :: (pend ++ [nw]) := by simp
                  have h8 := HR8.out
                  have s8 := HSR7.out
                  rw [eL] at h8 s8
                  exact ⟨idx + 1, _, vq8, pend ++ [nw], by go_num, by omega, HSQ.out.set hkq, h8, s8, fun n' hn' => (HDN.out n' hn').mono fun k' c' _ _ hh => HMO.out k' c' hh, fun t ht hh h0 => by
                    by_cases e : t = idx
                    · rw [e, HK.out, HC.out]; exact HME.out
                    · exact HMO.out _ _ (HLK.out t (by omega) hh h0), (fun e => by
                      rcases HP8.out.own with h | h
                      · rw [h] at e; exact HGQ.out e
                      · have := h gp e; have := (Array.getElem?_eq_some_iff.1 HG7.out).1; omega), (HP8.out.block gp (Array.getElem?_eq_some_iff.1 HG7.out).1 (by omega) HGQ.out).trans HG7.out⟩
                case measure => simp [intOf]; omega
            · go_wp2
              rw [HY1.out]
              go_quiet (fail)
              go_wp2
              go_roundw
              case rel => exact ⟨idx + 1, sm, vq, pend, by go_num, by omega, HSQ.out, HR1.out.below (below_draws (Below.refl _ _) nq), HSR.out, HDN.out, fun t ht hh h0 => by
                by_cases e : t = idx
                · rw [e, HK.out, HC.out]; exact HFL.out
                · exact HLK.out t (by omega) hh h0, HGQ.out, HG1.out⟩
              case measure => simp [intOf]; omega
          · obtain rfl : idx = N := by omega
            have HDX := Lib.hid (show ∀ n' ∈ don ++ [n], Dne q d (hF m) (cF x) i s0 (hF sm) n' from fun n' hn' => by
              rcases List.mem_append.1 hn' with h | h
              · exact HDN.out n' h
              · rw [List.mem_singleton.1 h]
                refine ⟨HOUT.out, fun k c hk hc ho hh h0 => ?_⟩
                obtain ⟨t, ht, e⟩ := onF_on (q := q) (d := d) hk hc ho
                have h9 := HLK.out t (by rw [← HN.out]; exact ht)
                rw [e] at h9
                exact h9 hh h0)
            have eL : don ++ n :: pend = (don ++ [n]) ++ pend := by simp
            have h8 := HRM.out
            have s8 := HSR.out
            have hle := HLE.out
            rw [eL] at h8 s8
            have HR8 := Lib.hid h8
            have HS8 := Lib.hid s8
            have HPL9 := Lib.hid (show pend.length ≤ 16 by simp at hle; omega)
            have HDL := Lib.hid (show don.length ≤ 15 by simp at hle; omega)
            have hii : ¬ (idx : Int) < (idx : Int) := by omega
            clear eL h8 s8 hle
            go_wp2_with fail
            refine (iTake_is wr (T + 2) (T + 1) vq pend HR8.out.qu (by have := HPL9.out; omega)).mono ?_
            rintro e w8 (⟨rfl, rfl, rfl⟩ | ⟨n', r, rfl, rfl, vq8, hp8⟩)
            · have HL := Lib.hid (show RL w B T q d i j (.slice Av q cv) (.slice Au q cu) (.slice (some ⟨g2, 0, none⟩) q c2) (hF m) (cF x) s0 (gk - 1) (.pointer none) (.bool false) w8 from
                ⟨sm, vq, don ++ [n], HSQ.out, HDX.out, .inl ⟨rfl, rfl, by have h := HR8.out; rw [List.append_nil] at h; exact h, by have h := HS8.out; rw [List.append_nil] at h; exact h⟩⟩)
              clear HR8 HS8 HRM HSR HPL9
              go_wp2
              go_roundg (gk - 1)
              case measure => have := HK.out; have := HDL.out; omega
              case rel => exact HL.out
            · have HL := Lib.hid (show RL w B T q d i j (.slice Av q cv) (.slice Au q cu) (.slice (some ⟨g2, 0, none⟩) q c2) (hF m) (cF x) s0 (gk - 1) (.pointer (some ⟨n'.blk, 0, none⟩)) (.bool true) w8 from
                ⟨sm, vq8, don ++ [n], HSQ.out, HDX.out, .inr ⟨n', r, rfl, rfl, by have := HK.out; have := HDL.out; simp; omega, HR8.out.sameq hp8, HS8.out⟩⟩)
              clear hp8 HR8 HS8 HRM HSR HPL9
              go_wp2
              go_roundg (gk - 1)
              case measure => have := HK.out; have := HDL.out; omega
              case rel => exact HL.out
      · have hb1 : (n.v.s != s0) = true := by rw [bne_iff_ne]; exact e1
        by_cases e2 : n.v.r = i
        · have hb2 : ((n.v.r : Int) == (i : Int)) = true := by simp [e2]
          have HE1 := Lib.hid e1
          have HE2 := Lib.hid e2
          clear e1 e2
          go_wp2
          go_quiet (fail)
          go_wp2
          refine bodyPost_ret (results_tmp2 rfl _ _ _) rfl ?_
          obtain ⟨c1, c2'⟩ := HRM.out.chain (fun n' hn' => by
            rcases HSR.out.par n' hn' with h | h
            · exact .inl h.1
            · exact .inr h) _ n HNM.out (Nat.le_refl _)
          have hTw := HRM.out.hT
          have hBw := HRM.out.hB
          exact ⟨below_draws HRM.out.low nq, .inr ⟨n.blk, n.chain, rfl, c1.same fun _ _ => rfl, fun p hp => by have := c2' p hp; omega, HSR.out.ring HNM.out HE1.out HE2.out⟩⟩
        · have hb2 : ((n.v.r : Int) == (i : Int)) = false := by rw [beq_eq_false_iff_ne]; omega
          have hout : ¬ (n.v.s ≠ s0 ∧ n.v.r = i) := fun h => e2 h.2
          clear e1 e2
          go_wp2
          go_quiet (fail)
          clear hb1 hb2
          have HOUT := Lib.hid hout
          clear hout
          obtain ⟨y0, hy0⟩ : ∃ y0, y0 = wr.drewN nq := ⟨_, rfl⟩
          have HR0 := Lib.hid (show RM w B T q d i j (.slice Av q cv) (.slice Au q cu) (.slice (some ⟨g2, 0, none⟩) q c2) sm vq (don ++ n :: pend) pend y0 by rw [hy0]; exact HRM.out.below (below_draws (Below.refl _ _) nq))
          rw [← hy0]
          clear hy0 p0 p1 p2 p3 v0 v2 q0 HRM
          obtain ⟨p0, p1, p2, p3⟩ := blkF HR0.out.fb
          go_wp2_with fail
          refine (iOnw_is y0 q d hq4 hd4 (.slice Av q cv) (.slice Au q cu) n.blk n.v _ (HR0.out.nd n HNM.out).1 s0).mono ?_
          rintro e w5 ⟨gp, rfl, hgp, hgp2, hpl, hb5⟩
          clear p0 p1 p2 p3
          obtain ⟨N, hN⟩ : ∃ N, onN q d s0 n.v = N := ⟨_, rfl⟩
          rw [hN] at hpl ⊢
          have hN4 : N ≤ 4 := by rw [← hN]; exact onN_le hq4 hd4 s0 n.v
          have HN := Lib.hid hN
          have HR5 := Lib.hid (HR0.out.below hb5)
          have HPL := Lib.hid hpl
          have hTg : T + 2 ≤ gp := by have := HR0.out.qu.lt; omega
          have HGQ := Lib.hid (show vq.ownBlock ≠ some gp from fun e => by have := (HR0.out.qu.row.ob gp e).2; omega)
          obtain ⟨og, hog⟩ : ∃ og, w5.heap[gp]? = some og := ⟨_, Array.getElem?_eq_getElem hgp2⟩
          have HOG := Lib.hid hog
          clear hN hgp hgp2 hpl hb5 HR0 hog
          go_wp2
          go_loopw [68] (fun a wr2 => ∃ (idx : Nat) (sm : Mk) (vq : Value) (pend : List Nd), a = .int .i64 idx ∧ idx ≤ N ∧ Sq sm q d ∧ RM w B T q d i j (.slice Av q cv) (.slice Au q cu) (.slice (some ⟨g2, 0, none⟩) q c2) sm vq (don ++ n :: pend) pend wr2 ∧ Sr q d (hF m) (cF x) i j s0 (don ++ n :: pend) (hF sm) ∧ (∀ n' ∈ don, Dne q d (hF m) (cF x) i s0 (hF sm) n') ∧ (∀ t, t < idx → hF m (onF s0 n.v t).1 (onF s0 n.v t).2 = true → 0 ≤ cF x (onF s0 n.v t).1 (onF s0 n.v t).2 + -n.v.s → hF sm (onF s0 n.v t).1 (onF s0 n.v t).2 = true) ∧ vq.ownBlock ≠ some gp ∧ wr2.heap[gp]? = some og) (fun a _ => N - (intOf a).toNat)
          case atStart => exact ⟨0, sm, vq, pend, rfl, Nat.zero_le _, HSQ.out, HR5.out, HSR.out, HDN.out, fun t ht => absurd ht (by omega), HGQ.out, HOG.out⟩
          case round =>
            clear HR5 HGQ HSQ HSR HDN HNM
            obtain ⟨idx, sm, vq, pend, rfl, hidx, hsq, hrm, hsr, hdn, hlk, hgq, hgh⟩ := hrel
            have HNM := Lib.hid (show n ∈ don ++ n :: pend by simp)
            have HSQ := Lib.hid hsq
            have HRM := Lib.hid hrm
            have HSR := Lib.hid hsr
            have HDN := Lib.hid hdn
            have HLK := Lib.hid hlk
            have HGQ := Lib.hid hgq
            have HGH := Lib.hid hgh
            have HLE := Lib.hid (show (don ++ n :: pend).length ≤ 16 from Nat.le_trans hsr.le (Nat.mul_le_mul hq4 hd4))
            clear hsq hrm hsr hdn hlk hgq hgh
            by_cases hlt : idx < N
            · have hii : (idx : Int) < (N : Int) := by omega
              obtain ⟨k, hk⟩ : ∃ k, (onF s0 n.v idx).1 = k := ⟨_, rfl⟩
              obtain ⟨c, hc⟩ : ∃ c, (onF s0 n.v idx).2 = c := ⟨_, rfl⟩
              obtain ⟨hkq, hcd, how⟩ := onF_in (q := q) (d := d) (s0 := s0) (v := n.v) (HSR.out.head HNM.out).1.1 (HSR.out.head HNM.out).1.2.1 (i := idx) (by rw [HN.out]; exact hlt)
              rw [hk] at hkq how
              rw [hc] at hcd how
              obtain ⟨l0, l1⟩ := HPL.out idx hlt
              rw [← World.cell?_of_block (w := w5) (w' := wr) (a := ⟨gp, idx * 2, none⟩) (HGH.out.trans HOG.out.symm), hk] at l0
              rw [← World.cell?_of_block (w := w5) (w' := wr) (a := ⟨gp, idx * 2 + 1, none⟩) (HGH.out.trans HOG.out.symm), hc] at l1
              have HK := Lib.hid hk
              have HC := Lib.hid hc
              have HOW := Lib.hid how
              obtain ⟨y1, hy1, b1, z1, k1⟩ := one_blk wr #[.int .i64 k, .int .i64 c] TPl
              have HY1 := Lib.hid hy1.symm
              have HR1 := Lib.hid (HRM.out.below b1)
              obtain ⟨t0, t1, _, _⟩ := blk2 k1
              obtain ⟨_, _, s2, _, _, _⟩ := blkG3 HR1.out.sb
              have HKP := Lib.hid (show ∀ X, Below y1.heap.size y1 X → X.cell? ⟨wr.heap.size, 0, none⟩ = some (.int .i64 k) ∧ X.cell? ⟨wr.heap.size, 1, none⟩ = some (.int .i64 c) from fun X h => by
                obtain ⟨a0, a1, _, _⟩ := blk2 ((h.block wr.heap.size (by omega)).trans k1)
                exact ⟨a0, a1⟩)
              have HG1 := Lib.hid (show y1.heap[gp]? = some og from (b1.block gp (Array.getElem?_eq_some_iff.1 HGH.out).1).trans HGH.out)
              obtain ⟨g', c', gi, ci, hv', m0, _, hgi, _, m1, mf, hset⟩ := HR1.out.sn.cell (i := k) (j := c) (by rw [HSQ.out.1]; exact hkq) (by rw [HSQ.out.2 k hkq]; exact hcd)
              injection hv' with hv1 hv2 hv3
              injection hv1 with hv1
              injection hv1 with hv1 _ _
              subst hv1 hv3
              rw [HSQ.out.2 k hkq] at m0
              obtain ⟨fl, hfl⟩ : ∃ fl, (sm.getD k []).getD c false = fl := ⟨_, rfl⟩
              rw [hfl] at m1
              have HFL := Lib.hid (show hF sm k c = fl from hfl)
              have hki : (k : Int) < (q : Int) := by omega
              have hci : (c : Int) < (d : Int) := by omega
              clear hk hc how hy1 b1 z1 k1 hv2 hfl hset hgi mf
              cases fl
              · obtain ⟨p0, p1, p2, p3⟩ := blkF HR1.out.fb
                obtain ⟨_, _, v2, _⟩ := blkF (HR1.out.nd n HNM.out).1
                have hsw : IntKind.i64.wrap (-n.v.s) = -n.v.s := by have := HSV.out; rw [IntKind.wrap_i64] <;> omega
                go_wp2
                rw [HY1.out]
                refine wp_region_still_tail 19 (by kernel_rfl) (by kernel_rfl) ?_
                simp only [List.take_succ_cons, List.take_zero, List.drop_succ_cons, List.drop_zero]
                iterate 19 still_step
                refine wpStill_nil ?_
                change wpList _ _ _ _ _ y1.drew
                obtain ⟨y2, hy2⟩ : ∃ y2, y2 = y1.drew := ⟨_, rfl⟩
                rw [← hy2]
                have HB12 := Lib.hid (show Below y1.heap.size y1 y2 by rw [hy2]; exact (Below.refl _ _).drew)
                have HR2 := Lib.hid (HR1.out.below HB12.out)
                have HBW := Lib.hid (HB.out.trans (HR2.out.low.mono HB.out.size))
                clear p0 p1 p2 p3 v2 m0 m1 t0 t1 s2 l0 l1 hy2
                obtain ⟨gc, hgc⟩ : ∃ gc, (hF m k c && decide (0 ≤ cF x k c + -n.v.s)) = gc := ⟨_, rfl⟩
                have HGC := Lib.hid hgc
                clear hgc
                go_wp2_with fail
                refine (iCan_is y2 x _ (HV.out.below HBW.out) m _ (HU.out.below HBW.out) q d HSH.out k c hkq hcd (-n.v.s) (by have := HSV.out; omega) (HX.out k c hkq hcd) gc HGC.out y2 (Below.refl _ _)).mono ?_
                rintro e y3 ⟨rfl, h3⟩
                have HB13 := Lib.hid (HB12.out.trans (h3.mono HB12.out.size))
                have HR3 := Lib.hid (HR2.out.below h3)
                have HG3 := Lib.hid (show y3.heap[gp]? = some og from (HB13.out.block gp (Array.getElem?_eq_some_iff.1 HG1.out).1).trans HG1.out)
                clear h3 HR2 hsw
                cases gc
                · go_wp2
                  go_roundw
                  case rel => exact ⟨idx + 1, sm, vq, pend, by go_num, by omega, HSQ.out, HR3.out, HSR.out, HDN.out, fun t ht hh h0 => by
                    by_cases e : t = idx
                    · have hg := HGC.out
                      rw [e, HK.out, HC.out] at hh h0
                      rw [hh, Bool.true_and, decide_eq_false_iff_not] at hg
                      exact absurd h0 hg
                    · exact HLK.out t (by omega) hh h0, HGQ.out, HG3.out⟩
                  case measure => simp [intOf]; omega
                · have hgc := HGC.out
                  rw [Bool.and_eq_true, decide_eq_true_eq] at hgc
                  obtain ⟨hgc1, hgc2⟩ := hgc
                  have HG21 := Lib.hid hgc1
                  have HG22 := Lib.hid hgc2
                  obtain ⟨_, _, s2, _, _, _⟩ := blkG3 HR3.out.sb
                  obtain ⟨t0, t1⟩ := HKP.out y3 HB13.out
                  obtain ⟨g', c', gi, ci, hv', m0, _, hgi, _, m1, mf, hset⟩ := HR3.out.sn.cell (i := k) (j := c) (by rw [HSQ.out.1]; exact hkq) (by rw [HSQ.out.2 k hkq]; exact hcd)
                  injection hv' with hv1 hv2 hv3
                  injection hv1 with hv1
                  injection hv1 with hv1 _ _
                  subst hv1 hv3
                  rw [HSQ.out.2 k hkq] at m0
                  obtain ⟨fl, hfl⟩ : ∃ fl, (sm.getD k []).getD c false = fl := ⟨_, rfl⟩
                  rw [hfl] at m1
                  have HSET := Lib.hid (hset true)
                  have HGI := Lib.hid hgi
                  clear hv2 hset hgi hfl hgc1 hgc2
                  go_wp2
                  refine wp_region_still_tail 9 (by kernel_rfl) (by kernel_rfl) ?_
                  simp only [List.take_succ_cons, List.take_zero, List.drop_succ_cons, List.drop_zero]
                  iterate 9 still_step
                  refine wpStill_nil ?_
                  change wpList _ _ _ _ _ y3.drew
                  obtain ⟨y4, hy4⟩ : ∃ y4, y4 = y3.drew := ⟨_, rfl⟩
                  rw [← hy4]
                  have c1' : y4.cell? ⟨gi, c, none⟩ = some (.bool fl) := by rw [hy4]; exact m1
                  have cf' : y4.frozen? ⟨gi, c, none⟩ = false := by rw [hy4]; exact mf
                  obtain ⟨y5, hy5⟩ : ∃ y5, y5 = y4.setCell ⟨gi, c, none⟩ (.bool true) := ⟨_, rfl⟩
                  have HR4 := Lib.hid (show RM w B T q d i j (.slice Av q cv) (.slice Au q cu) (.slice (some ⟨g2, 0, none⟩) q c2) sm vq (don ++ n :: pend) pend y4 by rw [hy4]; exact HR3.out.below (Below.refl _ _).drew)
                  have HR5 := Lib.hid (show RM w B T q d i j (.slice Av q cv) (.slice Au q cu) (.slice (some ⟨g2, 0, none⟩) q c2) (sm.set k ((sm.getD k []).set c true)) vq (don ++ n :: pend) pend y5 by
                    rw [hy5]; exact HR4.out.mark HGI.out (by rw [hy4]; exact HSET.out))
                  have ne5 : ∀ a, a ≠ gi → y5.heap[a]? = y3.heap[a]? := fun a ha => by rw [hy5, hy4]; exact Below.heap_setCell y3.drew ⟨gi, c, none⟩ _ a ha
                  have hwr : T + 2 ≤ wr.heap.size := by have := HRM.out.qu.lt; omega
                  have g2' := HGI.out.2
                  obtain ⟨o3, ho3⟩ : ∃ o, y3.heap[wr.heap.size]? = some o := by
                    have h := t0
                    unfold World.cell? at h
                    cases e9 : y3.heap[wr.heap.size]? with
                    | none => simp [e9] at h
                    | some o => exact ⟨o, rfl⟩
                  have HG5 := Lib.hid (show y5.heap[gp]? = some og from (ne5 gp (by omega)).trans HG3.out)
                  have u0 : y5.cell? ⟨wr.heap.size, 0, none⟩ = some (.int .i64 k) := (World.cell?_of_block (a := ⟨wr.heap.size, 0, none⟩) (ne5 wr.heap.size (by omega))).trans t0
                  have u1 : y5.cell? ⟨wr.heap.size, 1, none⟩ = some (.int .i64 c) := (World.cell?_of_block (a := ⟨wr.heap.size, 1, none⟩) (ne5 wr.heap.size (by omega))).trans t1
                  obtain ⟨_, _, v2, _⟩ := blkF (HR5.out.nd n HNM.out).1
                  have HY5 := Lib.hid hy5.symm
                  have hsw : IntKind.i64.wrap (-n.v.s) = -n.v.s := by have := HSV.out; rw [IntKind.wrap_i64] <;> omega
                  clear m0 m1 mf t0 t1 s2 hy4 ne5 g2' ho3 hy5 HR4 HSET HR3
                  go_wp2
                  rw [HY5.out]
                  refine wp_region_still_tail 8 (by kernel_rfl) (by kernel_rfl) ?_
                  simp only [List.take_succ_cons, List.take_zero, List.drop_succ_cons, List.drop_zero]
                  iterate 8 still_step
                  refine wpStill_nil ?_
                  change wpList _ _ _ _ _ y5.drew
                  obtain ⟨y6, hy6⟩ : ∃ y6, y6 = y5.drew := ⟨_, rfl⟩
                  rw [← hy6]
                  obtain ⟨y7, hy7⟩ : ∃ y7, y7 = y6.alloc (.cells #[.int .i64 k, .int .i64 c, .int .i64 (-n.v.s), .pointer (some ⟨n.blk, 0, none⟩)] TV) := ⟨_, rfl⟩
                  have b56 : Below y5.heap.size y5 y6 := by rw [hy6]; exact (Below.refl _ _).drew
                  have b67 : Below y6.heap.size y6 y7 := by rw [hy7]; exact (Below.refl _ _).alloc (Nat.le_refl _) _
                  have k7 : y7.heap[y6.heap.size]? = some (visO ⟨k, c, -n.v.s⟩ (ptV (some n.blk))) := by rw [hy7]; exact heap_alloc_new _ _
                  have HR6 := Lib.hid (HR5.out.below b56)
                  have hT6 : T + 2 ≤ y6.heap.size := by have := HR6.out.qu.lt; omega
                  obtain ⟨nw, hnw⟩ : ∃ nw : Nd, nw = ⟨y6.heap.size, ⟨k, c, -n.v.s⟩, n.chain⟩ := ⟨_, rfl⟩
                  have HR7 := Lib.hid (show RM w B T q d i j (.slice Av q cv) (.slice Au q cu) (.slice (some ⟨g2, 0, none⟩) q c2) (sm.set k ((sm.getD k []).set c true)) vq ((don ++ n :: pend) ++ [nw]) pend y7 from (HR6.out.below b67).more (by rw [hnw]; exact k7) (by rw [hnw]; exact hT6) (by rw [hnw]; exact fun e => by have := (HR6.out.qu.row.ob y6.heap.size e).2; omega))
                  have HG7 := Lib.hid (show y7.heap[gp]? = some og from (b67.block gp (Array.getElem?_eq_some_iff.1 ((b56.block gp (Array.getElem?_eq_some_iff.1 HG5.out).1).trans HG5.out)).1).trans ((b56.block gp (Array.getElem?_eq_some_iff.1 HG5.out).1).trans HG5.out))
                  have HSR7 := Lib.hid (show Sr q d (hF m) (cF x) i j s0 ((don ++ n :: pend) ++ [nw]) (hF (sm.set k ((sm.getD k []).set c true))) by
                    rw [hnw]
                    exact HSR.out.add HNM.out y6.heap.size hkq hcd HOW.out HFL.out HG21.out HG22.out fun k' c' _ _ => hF_set (by rw [HSQ.out.1]; exact hkq) (by rw [HSQ.out.2 k hkq]; exact hcd) k' c')
                  have HMO := Lib.hid (show ∀ k' c', hF sm k' c' = true → hF (sm.set k ((sm.getD k []).set c true)) k' c' = true from fun k' c' hh => by
                    rw [hF_set (by rw [HSQ.out.1]; exact hkq) (by rw [HSQ.out.2 k hkq]; exact hcd)]; split; rfl; exact hh)
                  have HME := Lib.hid (show hF (sm.set k ((sm.getD k []).set c true)) k c = true by
                    rw [hF_set (by rw [HSQ.out.1]; exact hkq) (by rw [HSQ.out.2 k hkq]; exact hcd), if_pos ⟨rfl, rfl⟩])
                  have HY7 := Lib.hid hy7.symm
                  have HNW := Lib.hid (show nw.blk = y6.heap.size by rw [hnw])
                  have hle := HLE.out
                  have HPL9 := Lib.hid (show pend.length ≤ 16 by simp at hle; omega)
                  have HT7 := Lib.hid (show T + 2 ≤ y7.heap.size from Nat.le_trans hT6 b67.size)
                  clear hle u0 u1 v2 c1' cf' b56 b67 k7 hT6 hnw hy7 hy6 HR6 HR5 hsw
                  go_wp2_with fail
                  rw [HY7.out]
                  refine (iPut_is y7 (T + 2) (T + 1) vq (pend.map fun n => ptV (some n.blk)) HR7.out.qu (by rw [List.length_map]; have := HPL9.out; omega) HT7.out (some y6.heap.size)).mono ?_
                  rintro e y8 ⟨rfl, vq8, hp8⟩
                  have HP8 := Lib.hid hp8
                  have HR8 := Lib.hid (HR7.out.sameq (pend' := pend ++ [nw]) (by rw [List.map_append]; show QPut y7 y8 (T + 2) (T + 1) vq vq8 (_ ++ [ptV (some nw.blk)]); rw [HNW.out]; exact hp8))
                  clear hp8 HR7
                  go_wp2
                  go_roundw
                  case rel =>
                    have eL : (don ++ n :: pend) ++ [nw] = don ++ n :: (pend ++ [nw]) := by simp
                    have h8 := HR8.out
                    have s8 := HSR7.out
                    rw [eL] at h8 s8
                    exact ⟨idx + 1, _, vq8, pend ++ [nw], by go_num, by omega, HSQ.out.set hkq, h8, s8, fun n' hn' => (HDN.out n' hn').mono fun k' c' _ _ hh => HMO.out k' c' hh, fun t ht hh h0 => by
                      by_cases e : t = idx
                      · rw [e, HK.out, HC.out]; exact HME.out
                      · exact HMO.out _ _ (HLK.out t (by omega) hh h0), (fun e => by
                        rcases HP8.out.own with h | h
                        · rw [h] at e; exact HGQ.out e
                        · have := h gp e; have := (Array.getElem?_eq_some_iff.1 HG7.out).1; omega), (HP8.out.block gp (Array.getElem?_eq_some_iff.1 HG7.out).1 (by omega) HGQ.out).trans HG7.out⟩
                  case measure => simp [intOf]; omega
              · go_wp2
                rw [HY1.out]
                go_quiet (fail)
                go_wp2
                go_roundw
                case rel => exact ⟨idx + 1, sm, vq, pend, by go_num, by omega, HSQ.out, HR1.out.below (below_draws (Below.refl _ _) nq), HSR.out, HDN.out, fun t ht hh h0 => by
                  by_cases e : t = idx
                  · rw [e, HK.out, HC.out]; exact HFL.out
                  · exact HLK.out t (by omega) hh h0, HGQ.out, HG1.out⟩
                case measure => simp [intOf]; omega
            · obtain rfl : idx = N := by omega
              have HDX := Lib.hid (show ∀ n' ∈ don ++ [n], Dne q d (hF m) (cF x) i s0 (hF sm) n' from fun n' hn' => by
                rcases List.mem_append.1 hn' with h | h
                · exact HDN.out n' h
                · rw [List.mem_singleton.1 h]
                  refine ⟨HOUT.out, fun k c hk hc ho hh h0 => ?_⟩
                  obtain ⟨t, ht, e⟩ := onF_on (q := q) (d := d) hk hc ho
                  have h9 := HLK.out t (by rw [← HN.out]; exact ht)
                  rw [e] at h9
                  exact h9 hh h0)
              have eL : don ++ n :: pend = (don ++ [n]) ++ pend := by simp
              have h8 := HRM.out
              have s8 := HSR.out
              have hle := HLE.out
              rw [eL] at h8 s8
              have HR8 := Lib.hid h8
              have HS8 := Lib.hid s8
              have HPL9 := Lib.hid (show pend.length ≤ 16 by simp at hle; omega)
              have HDL := Lib.hid (show don.length ≤ 15 by simp at hle; omega)
              have hii : ¬ (idx : Int) < (idx : Int) := by omega
              clear eL h8 s8 hle
              go_wp2_with fail
              refine (iTake_is wr (T + 2) (T + 1) vq pend HR8.out.qu (by have := HPL9.out; omega)).mono ?_
              rintro e w8 (⟨rfl, rfl, rfl⟩ | ⟨n', r, rfl, rfl, vq8, hp8⟩)
              · have HL := Lib.hid (show RL w B T q d i j (.slice Av q cv) (.slice Au q cu) (.slice (some ⟨g2, 0, none⟩) q c2) (hF m) (cF x) s0 (gk - 1) (.pointer none) (.bool false) w8 from
                  ⟨sm, vq, don ++ [n], HSQ.out, HDX.out, .inl ⟨rfl, rfl, by have h := HR8.out; rw [List.append_nil] at h; exact h, by have h := HS8.out; rw [List.append_nil] at h; exact h⟩⟩)
                clear HR8 HS8 HRM HSR HPL9
                go_wp2
                go_roundg (gk - 1)
                case measure => have := HK.out; have := HDL.out; omega
                case rel => exact HL.out
              · have HL := Lib.hid (show RL w B T q d i j (.slice Av q cv) (.slice Au q cu) (.slice (some ⟨g2, 0, none⟩) q c2) (hF m) (cF x) s0 (gk - 1) (.pointer (some ⟨n'.blk, 0, none⟩)) (.bool true) w8 from
                  ⟨sm, vq8, don ++ [n], HSQ.out, HDX.out, .inr ⟨n', r, rfl, rfl, by have := HK.out; have := HDL.out; simp; omega, HR8.out.sameq hp8, HS8.out⟩⟩)
                clear hp8 HR8 HS8 HRM HSR HPL9
                go_wp2
                go_roundg (gk - 1)
                case measure => have := HK.out; have := HDL.out; omega
                case rel => exact HL.out
end Go.Proofs.YtobgceebolmfcaaDoor
namespace Go.Proofs.YtobgceebolmfcaaDoor
open Go.RowKit Go.Shelf
theorem vs_app (a b : List (Nat × Vt)) : vs (a ++ b) = vs a ++ vs b := List.map_append ..
theorem chg_bd {q d : Nat} {h : Nat → Nat → Bool} {x : Tf} {i j : Nat} {s0 e : Int} {p r : List Vt} (g : Rng q d h x i j s0 (p ++ r)) (hx : ∀ k l, k < q → l < d → 0 ≤ x k l ∧ x k l ≤ 396) (he : 1 ≤ e ∧ e ≤ 396) {k c : Nat} (hk : k < q) (hc : c < d) : -396 ≤ chg e p x k c ∧ chg e p x k c ≤ 792 := by
  have h0 := hx k c hk hc
  unfold chg
  rcases ad_one (e := e) (k := k) (c := c) p (List.pairwise_append.1 g.apt).1 with h1 | ⟨v, hv, _, _, h1⟩
  · rw [h1]; omega
  · rw [h1]
    rcases (g.ins v (List.mem_append_left _ hv)).2.2.2.2 with h2 | h2 <;> rw [h2] <;> omega
theorem within_below {w w1 w2 : World} {B T : Nat} (h : Within w w1 B T) (hb : Below w1.heap.size w1 w2) : Within w w2 B T :=
  ⟨hb.os.trans h.1, hb.tape.trans h.2.1, hb.output.trans h.2.2.1, Nat.le_trans h.2.2.2.1 hb.size, fun k hk hc => (hb.block k (Nat.lt_of_lt_of_le hk h.2.2.2.1)).trans (h.2.2.2.2 k hk hc)⟩
theorem within_set {w w1 : World} {B T g c : Nat} {v : Value} (h : Within w w1 B T) (hg : B ≤ g ∧ g < T) : Within w (w1.setCell ⟨g, c, none⟩ v) B T :=
  ⟨h.1, h.2.1, h.2.2.1, by simp [World.setCell]; exact h.2.2.2.1, fun k hk hc => (Below.heap_setCell w1 ⟨g, c, none⟩ v k (by show k ≠ g; omega)).trans (h.2.2.2.2 k hk hc)⟩
set_option maxRecDepth 100000 in
set_option maxHeartbeats 8000000 in
theorem iTrn_is (x : Tb) (m : Mk) (q d : Nat) (hS : Shp x m q d) (hx : ∀ k l, k < q → l < d → 0 ≤ cF x k l ∧ cF x k l ≤ 396) (i j : Nat) (s0 : Int) (l : List (Nat × Vt)) (hr : Rng q d (hF m) (cF x) i j s0 (vs l)) (u : Value)
    (w : World) (B T : Nat) (v : Value) (hv : InR w B T v x) (b : Nat) (hc : HC w (some b) l) (hbl : ∀ p ∈ l, T ≤ p.1) :
    Calls Tryd.prog 107 #[fitV q d v u, .pointer (some ⟨b, 0, none⟩)] w fun e w' => e = .returned (.tuple #[]) ∧ ∃ t', InR w' B T v t' ∧ Shp t' m q d ∧ cF t' = chg (mst (cF x) (vs l)) (vs l) (cF x) ∧ Within w w' B T := by
  have HSH := Lib.hid hS
  have HX := Lib.hid hx
  have HR := Lib.hid hr
  have HV := Lib.hid hv
  have HBL := Lib.hid hbl
  have hq4 : q ≤ 4 := hS.q4
  have hd4 : d ≤ 4 := hS.d4
  obtain ⟨wa, hwa, ba, hza, ka⟩ := one_blk w #[.int .i64 q, .int .i64 d, v, u] TF
  have HWa := Lib.hid hwa.symm
  have HBa := Lib.hid ba
  have HKA := Lib.hid (show ∀ X, Below wa.heap.size wa X → X.heap[w.heap.size]? = some (.cells #[.int .i64 q, .int .i64 d, v, u] TF (0, 0)) from fun X h => (h.block _ (by omega)).trans ka)
  have HVA := Lib.hid (hv.below ba)
  have HZA := Lib.hid hza
  have HTW := Lib.hid hv.1
  have hcl : ∀ {l : List (Nat × Vt)} {p : Option Nat}, HC w p l → ∀ y ∈ l, y.1 < w.heap.size := by
    intro l
    induction l with
    | nil => intro p _ y hy; cases hy
    | cons a l ih =>
      intro p h y hy
      obtain ⟨a1, a2⟩ := a
      obtain ⟨_, p', h2, h3⟩ := h
      rcases List.mem_cons.1 hy with rfl | hy
      · exact (Array.getElem?_eq_some_iff.1 h2).1
      · exact ih h3 y hy
  have HCA := Lib.hid (show HC wa (some b) l from hc.same fun y hy => ba.block _ (hcl hc y hy))
  have HLT := Lib.hid (hcl hc)
  clear hS hx hr hc hbl hwa ba hza ka hcl
  obtain ⟨gv, cv, _, _, hvv, _⟩ := Mine.cell hv (i := 0) (j := 0) (by have := HSH.out.tl; have := HSH.out.q1; omega) (by have := HSH.out.tr 0 (by have := HSH.out.q1; omega); have := HSH.out.d1; omega)
  rw [HSH.out.tl] at hvv
  subst hvv
  clear hv
  go_enter Tryd.func107, Tryd.ntmps107
  go_wp2
  rw [HWa.out]
  go_loopg [4, 5] (l.length + 1) (fun k most p wr => ∃ pre suf pp, l = pre ++ suf ∧ suf.length + 1 = k ∧ most = .int .i64 (mst (cF x) (vs pre)) ∧ p = ptV pp ∧ HC wr pp suf ∧ Below wa.heap.size wa wr)
  case atStart => exact ⟨[], l, some b, rfl, rfl, rfl, rfl, HCA.out, Below.refl _ _⟩
  case round =>
    obtain ⟨pre, suf, pp, hl, hk, rfl, rfl, hcc, hbw⟩ := hrel
    have HL := Lib.hid hl
    have HBW := Lib.hid hbw
    have HK := Lib.hid hk
    obtain ⟨p0, p1, p2, p3⟩ := blkF (HKA.out wr hbw)
    cases suf with
    | nil =>
      have : pp = none := hcc
      subst this
      clear hl hbw hk hcc
      simp only [ptV, Option.map_none]
      have hpl : pre = l := by rw [HL.out]; simp
      subst hpl
      obtain ⟨e, he⟩ : ∃ e, mst (cF x) (vs pre) = e := ⟨_, rfl⟩
      have heb := mst_one (x := cF x) (l := vs pre) (fun v hv hvs => by have := (HR.out.ins v hv).2.2.2.1; omega)
      rw [he] at heb ⊢
      have HE := Lib.hid he
      have HWI := Lib.hid (show Within w wr B T from within_below (within_below (Within.refl w B T) HBa.out) HBW.out)
      have HVW := Lib.hid (HVA.out.below HBW.out)
      have HKW := Lib.hid (HKA.out wr HBW.out)
      have HCW := Lib.hid (show HC wr (some b) pre from HCA.out.same fun y hy => HBW.out.block _ (by have := HLT.out y hy; have := HZA.out; omega))
      clear he HL HK p0 p1 p2 p3
      go_wp2
      go_loopg [6] (pre.length + 1) (fun k p wr2 => ∃ pr suf pp t', pre = pr ++ suf ∧ suf.length + 1 = k ∧ p = ptV pp ∧ HC wr2 pp suf ∧ InR wr2 B T (.slice (some ⟨gv, 0, none⟩) q cv) t' ∧ Shp t' m q d ∧ cF t' = chg e (vs pr) (cF x) ∧ Within w wr2 B T ∧ wr2.heap[w.heap.size]? = some (.cells #[.int .i64 q, .int .i64 d, .slice (some ⟨gv, 0, none⟩) q cv, u] TF (0, 0)))
      case atStart => exact ⟨[], pre, some b, x, rfl, rfl, rfl, HCW.out, HVW.out, HSH.out, (chg_nil e _).symm, HWI.out, HKW.out⟩
      case round =>
        clear HWI HVW HKW HCW HBW HCA HVA HKA HWa HBa
        obtain ⟨pr, suf, pp, t', hl, hk, rfl, hcc, hm, hs, hcf, hwi, hbx⟩ := hrel
        have HL := Lib.hid hl
        have HK := Lib.hid hk
        have HM := Lib.hid hm
        have HS := Lib.hid hs
        have HCF := Lib.hid hcf
        have HWI := Lib.hid hwi
        have HBX := Lib.hid hbx
        cases suf with
        | nil =>
          have : pp = none := hcc
          subst this
          have hpl : pr = pre := by rw [HL.out]; simp
          clear hl hk hcc hm hs hcf hwi hbx
          simp only [ptV, Option.map_none]
          go_wp2
          go_end0
          exact ⟨rfl, t', HM.out, HS.out, by rw [HCF.out, hpl, HE.out], HWI.out⟩
        | cons a suf =>
          obtain ⟨bk, vt⟩ := a
          obtain ⟨hpp, pn, hh, hcn⟩ := hcc
          subst hpp
          obtain ⟨v0, v1, v2, v3⟩ := blkF hh
          obtain ⟨p0, p1, p2, p3⟩ := blkF hbx
          have hmem : (bk, vt) ∈ pre := by rw [hl]; exact List.mem_append_right _ List.mem_cons_self
          have hin := HR.out.ins vt (List.mem_map.2 ⟨_, hmem, rfl⟩)
          have hbd := chg_bd (e := e) (p := vs pr) (r := vs ((bk, vt) :: suf)) (by rw [← vs_app, ← hl]; exact HR.out) HX.out heb hin.1 hin.2.1
          obtain ⟨g', c', gi, ci, hv', m0, _, hgi, _, m1, mf, hset⟩ := Mine.cell hm (i := vt.r) (j := vt.c) (by rw [hs.tl]; exact hin.1) (by rw [hs.tr _ hin.1]; exact hin.2.1)
          injection hv' with hv1 hv2 hv3
          injection hv1 with hv1
          injection hv1 with hv1 _ _
          subst hv1 hv3
          rw [hs.tr _ hin.1] at m0
          obtain ⟨y, hy⟩ : ∃ y, cF t' vt.r vt.c = y := ⟨_, rfl⟩
          have hyy : (t'.getD vt.r []).getD vt.c 0 = y := hy
          rw [hyy] at m1
          rw [← hcf, hy] at hbd
          obtain ⟨z1, hz1⟩ : ∃ z1, vt.s * e = z1 := ⟨_, rfl⟩
          have hz1b : -396 ≤ z1 ∧ z1 ≤ 396 := by
            rcases hin.2.2.2.2 with h | h <;> rw [h] at hz1 <;> omega
          obtain ⟨z2, hz2⟩ : ∃ z2, y + z1 = z2 := ⟨_, rfl⟩
          have hw1 : IntKind.i64.wrap (vt.s * e) = z1 := by rw [hz1, IntKind.wrap_i64] <;> omega
          have hw2 : IntKind.i64.wrap (y + z1) = z2 := by rw [hz2, IntKind.wrap_i64] <;> omega
          have HNEW := Lib.hid (show Mine (wr.setCell ⟨gi, vt.c, none⟩ (.int .i64 z2)) B T (.slice (some ⟨gv, 0, none⟩) q cv) (t'.set vt.r ((t'.getD vt.r []).set vt.c z2)) from hset z2)
          have HCFN := Lib.hid (show cF (t'.set vt.r ((t'.getD vt.r []).set vt.c z2)) = chg e (vs (pr ++ [(bk, vt)])) (cF x) by
            rw [cF_set (by rw [hs.tl]; exact hin.1) (by rw [hs.tr _ hin.1]; exact hin.2.1), vs_app, show vs [(bk, vt)] = [vt] from rfl, chg_snoc, hcf, hz1]
            congr 1
            rw [← hcf, hy]; omega)
          have HSN := Lib.hid (hs.set (v := z2) (l := vt.c) hin.1)
          have HGI := Lib.hid hgi
          have hii : (vt.r : Int) < (q : Int) := by have := hin.1; omega
          have hji : (vt.c : Int) < (d : Int) := by have := hin.2.1; omega
          have HBK := Lib.hid (show T ≤ bk from HBL.out _ hmem)
          have HCN := Lib.hid (show ∀ X : World, (∀ k, k ≠ gi → X.heap[k]? = wr.heap[k]?) → HC X pn suf ∧ X.heap[w.heap.size]? = some (.cells #[.int .i64 q, .int .i64 d, .slice (some ⟨gv, 0, none⟩) q cv, u] TF (0, 0)) from fun X hX =>
            ⟨hcn.same fun a ha => hX _ (by have := HBL.out a (by rw [hl]; exact List.mem_append_right _ (List.mem_cons_of_mem _ ha)); omega), (hX _ (by have := HTW.out; omega)).trans hbx⟩)
          simp only [ptV, Option.map_some] at v3 ⊢
          clear hl hk hh hcn hm hs hcf hwi hbx hmem hin hset hgi hv2 hy hyy hz1 hz2 hbd hz1b
          go_wp2
          refine wp_region_still_tail 25 (by kernel_rfl) (by kernel_rfl) ?_
          simp only [List.take_succ_cons, List.take_zero, List.drop_succ_cons, List.drop_zero]
          iterate 25 still_step
          refine wpStill_nil ?_
          change wpList _ _ _ _ _ wr.drew
          obtain ⟨y4, hy4⟩ : ∃ y4, y4 = wr.drew := ⟨_, rfl⟩
          rw [← hy4]
          have c1' : y4.cell? ⟨gi, vt.c, none⟩ = some (.int .i64 y) := by rw [hy4]; exact m1
          have cf' : y4.frozen? ⟨gi, vt.c, none⟩ = false := by rw [hy4]; exact mf
          obtain ⟨y5, hy5⟩ : ∃ y5, y5 = y4.setCell ⟨gi, vt.c, none⟩ (.int .i64 z2) := ⟨_, rfl⟩
          have ne5 : ∀ a, a ≠ gi → y5.heap[a]? = wr.heap[a]? := fun a ha => by rw [hy5, hy4]; exact Below.heap_setCell wr.drew ⟨gi, vt.c, none⟩ _ a ha
          obtain ⟨hc5, hb5⟩ := HCN.out y5 ne5
          have HC5 := Lib.hid hc5
          have HB5 := Lib.hid hb5
          have HM5 := Lib.hid (show Mine y5 B T (.slice (some ⟨gv, 0, none⟩) q cv) (t'.set vt.r ((t'.getD vt.r []).set vt.c z2)) by rw [hy5, hy4]; exact HNEW.out)
          have HW5 := Lib.hid (show Within w y5 B T by
            rw [hy5]; exact within_set (by rw [hy4]; exact within_below HWI.out (Below.refl _ _).drew) HGI.out)
          have v3' : y5.cell? ⟨bk, 3, none⟩ = some (.pointer (Option.map (fun k => (⟨k, 0, none⟩ : Addr)) pn)) := (World.cell?_of_block (a := ⟨bk, 3, none⟩) (ne5 bk (by have := HBK.out; have := HGI.out.2; omega))).trans v3
          have HY5 := Lib.hid hy5.symm
          rw [← HY5.out] at v3'
          clear hc5 hb5 ne5 hy5 hy4 m0 m1 mf v0 v1 v2 v3 p0 p1 p2 p3
          go_wp2
          rw [HY5.out]
          go_roundg (gk - 1)
          case measure => have := HK.out; simp at this; omega
          case rel => exact ⟨pr ++ [(bk, vt)], suf, pn, _, by rw [HL.out]; simp, by have := HK.out; simp at this; omega, rfl, HC5.out, HM5.out, HSN.out, HCFN.out, HW5.out, HB5.out⟩
    | cons a suf =>
      obtain ⟨bk, vt⟩ := a
      obtain ⟨hpp, pn, hh, hcn⟩ := hcc
      subst hpp
      have HCN := Lib.hid hcn
      obtain ⟨v0, v1, v2, v3⟩ := blkF hh
      have hin := HR.out.ins vt (by rw [hl, vs_app]; exact List.mem_append_right _ List.mem_cons_self)
      have hmb := mst_bd (x := cF x) (l := vs l) (fun v hv hvs => by have := (HR.out.ins v hv).2.2.2.1; omega) (vs pre) (vs ((bk, vt) :: suf)) (by rw [hl, vs_app])
      obtain ⟨m0, hm0⟩ : ∃ m0, mst (cF x) (vs pre) = m0 := ⟨_, rfl⟩
      have HM0 := Lib.hid hm0
      rw [hm0] at hmb
      have hbkw : bk < wr.heap.size := (Array.getElem?_eq_some_iff.1 hh).1
      have HFF := Lib.hid (show ∀ w' : World, Below wr.heap.size wr w' → (Below wr.heap.size wr w' ∧ (w'.cell? ⟨w.heap.size, 0, none⟩ = some (.int .i64 q) ∧ w'.cell? ⟨w.heap.size, 1, none⟩ = some (.int .i64 d) ∧ w'.cell? ⟨w.heap.size, 2, none⟩ = some (.slice (some ⟨gv, 0, none⟩) q cv) ∧ w'.cell? ⟨w.heap.size, 3, none⟩ = some u) ∧
        w'.cell? ⟨bk, 0, none⟩ = some (.int .i64 vt.r) ∧ w'.cell? ⟨bk, 1, none⟩ = some (.int .i64 vt.c)) from fun w' h => by
        obtain ⟨a0, a1, _, _⟩ := blkF ((h.block bk hbkw).trans hh)
        exact ⟨h, blkF (HKA.out w' (hbw.trans (h.mono hbw.size))), a0, a1⟩)
      have b0 : Below wr.heap.size wr wr.drew := (Below.refl _ _).drew
      have HIS := Lib.hid (HVA.out.is.below (w' := wr) hbw)
      have HPN := Lib.hid hh
      obtain ⟨y, hy⟩ : ∃ y, cF x vt.r vt.c = y := ⟨_, rfl⟩
      have HY := Lib.hid hy
      have hyb := HX.out vt.r vt.c hin.1 hin.2.1
      rw [hy] at hyb
      have HIN := Lib.hid hin
      rw [hm0]
      simp only [ptV, Option.map_some] at v3 ⊢
      clear hl hbw hk hcn hm0 hh hbkw hy hin
      by_cases e1 : vt.s = -1
      · have HE := Lib.hid e1
        go_wp2
        clear p0 p1 p2 p3 v0 v1 v2 e1
        go_region_held3 (fun w' => Below wr.heap.size wr w' ∧ (w'.cell? ⟨w.heap.size, 0, none⟩ = some (.int .i64 q) ∧ w'.cell? ⟨w.heap.size, 1, none⟩ = some (.int .i64 d) ∧ w'.cell? ⟨w.heap.size, 2, none⟩ = some (.slice (some ⟨gv, 0, none⟩) q cv) ∧ w'.cell? ⟨w.heap.size, 3, none⟩ = some u) ∧
          w'.cell? ⟨bk, 0, none⟩ = some (.int .i64 vt.r) ∧ w'.cell? ⟨bk, 1, none⟩ = some (.int .i64 vt.c))
          (first | exact HFF.out _ (by assumption) | exact HFF.out _ b0)
          (first
            | (go_at_call 108
               refine (iAt_is wr x (.slice (some ⟨gv, 0, none⟩) q cv) HIS.out u q d HSH.out.tl HSH.out.tr vt.r vt.c HIN.out.1 HIN.out.2.1 _ b0).mono ?_
               rintro e w3 ⟨rfl, h3⟩
               rw [HY.out]))
        obtain ⟨z, hz⟩ : ∃ z, (if y < m0 then y else m0) = z := ⟨_, rfl⟩
        have HZ := Lib.hid (show mst (cF x) (vs (pre ++ [(bk, vt)])) = z by
          rw [vs_app, show vs [(bk, vt)] = [vt] from rfl, mst_snoc, if_pos HE.out, HM0.out, HY.out, ← hz]
          split <;> omega)
        rw [hz]
        have w3v : w3.cell? ⟨bk, 3, none⟩ = some (.pointer (Option.map (fun k => (⟨k, 0, none⟩ : Addr)) pn)) := (blkF ((h3.block bk (Array.getElem?_eq_some_iff.1 HPN.out).1).trans HPN.out)).2.2.2
        have HN3 := Lib.hid (show HC w3 pn suf from HCN.out.same fun y hy => h3.block _ (by have := HLT.out y (by rw [HL.out]; exact List.mem_append_right _ (List.mem_cons_of_mem _ hy)); have := HBW.out.size; have := HZA.out; omega))
        have HB3 := Lib.hid (HBW.out.trans (h3.mono HBW.out.size))
        clear hz h3 hmb hyb
        go_wp2
        go_roundg (gk - 1)
        case measure => have := HK.out; simp at this; omega
        case rel => exact ⟨pre ++ [(bk, vt)], suf, pn, by rw [HL.out]; simp, by have := HK.out; simp at this; omega, by rw [HZ.out], rfl, HN3.out, HB3.out⟩
      · have HE := Lib.hid e1
        have hb1 : (vt.s == -1) = false := by rw [beq_eq_false_iff_ne]; exact e1
        have HZ := Lib.hid (show mst (cF x) (vs (pre ++ [(bk, vt)])) = m0 by
          rw [vs_app, show vs [(bk, vt)] = [vt] from rfl, mst_snoc, if_neg HE.out, HM0.out])
        clear e1 hmb hyb
        go_wp2
        clear hb1
        go_roundg (gk - 1)
        case measure => have := HK.out; simp at this; omega
        case rel => exact ⟨pre ++ [(bk, vt)], suf, pn, by rw [HL.out]; simp, by have := HK.out; simp at this; omega, by rw [HZ.out], rfl, HCN.out, HBW.out⟩
end Go.Proofs.YtobgceebolmfcaaDoor
namespace Go.Proofs.YtobgceebolmfcaaDoor
open Go.RowKit Go.Shelf
/-- How far a cell's number may still go. -/
def far (s0 y : Int) : Nat := (if s0 = 1 then 397 - y else y + 1).toNat
theorem far_less {s0 y e : Int} (hs : s0 = 1 ∨ s0 = -1) (he : 1 ≤ e) (hy : 0 ≤ y ∧ y ≤ 396) (hy2 : 0 ≤ y + s0 * e ∧ y + s0 * e ≤ 396) : far s0 (y + s0 * e) + 1 ≤ far s0 y := by
  unfold far
  rcases hs with rfl | rfl
  · rw [if_pos rfl, if_pos rfl]; omega
  · rw [if_neg (by omega), if_neg (by omega)]; omega
/-- What a search has told: the bound, or a ring. -/
def Tld (q d : Nat) (h : Nat → Nat → Bool) (x : Tf) (i j : Nat) (s0 : Int) (T : Nat) (y : World) (last ok : Value) : Prop :=
  (ok = .bool false ∧ last = .pointer none ∧ (s0 = 1 → ∀ z, FitF q d h x z → z i j ≤ x i j) ∧ (s0 = -1 → ∀ z, FitF q d h x z → x i j ≤ z i j)) ∨
  ∃ b l, ok = .bool true ∧ last = .pointer (some ⟨b, 0, none⟩) ∧ HC y (some b) l ∧ (∀ p ∈ l, T ≤ p.1) ∧ Rng q d h x i j s0 (vs l)
theorem below_of_within {W w w' : World} {B T : Nat} (hb : Below W.heap.size W w) (hw : Within w w' B T) (hB : W.heap.size ≤ B) : Below W.heap.size W w' := below_within hb hw hB
set_option maxRecDepth 100000 in
set_option maxHeartbeats 8000000 in
theorem iFth_is (W : World) (m : Mk) (u : Value) (hu : IsM W u m) (x : Tb) (q d : Nat) (hS : Shp x m q d) (hx : Pos q d (cF x)) (hR : ∀ k, k < q → sm d (cF x k) ≤ 396) (i j : Nat) (hi : i < q) (hj : j < d) (s0 : Int) (hs : s0 = 1 ∨ s0 = -1)
    (w : World) (hb : Below W.heap.size W w) (B T : Nat) (hB : W.heap.size ≤ B) (v : Value) (hv : InR w B T v x) :
    Calls Tryd.prog 102 #[fitV q d v u, plV i j, .int .i64 s0] w fun e w' => ∃ y, e = .returned (.int .i64 y) ∧ Below W.heap.size W w' ∧ (s0 = 1 → IsHi q d (hF m) (cF x) i j y) ∧ (s0 = -1 → IsLo q d (hF m) (cF x) i j y) := by
  have HU := Lib.hid hu
  have HSH := Lib.hid hS
  have HX := Lib.hid hx
  have HR := Lib.hid hR
  have HS := Lib.hid hs
  have HB := Lib.hid hb
  have HV := Lib.hid hv
  have HTW := Lib.hid hv.1
  have HBB := Lib.hid hB
  have hq4 : q ≤ 4 := hS.q4
  have hd4 : d ≤ 4 := hS.d4
  have HCB := Lib.hid (show ∀ y, FitF q d (hF m) (cF x) y → ∀ k l, k < q → l < d → 0 ≤ y k l ∧ y k l ≤ 396 from fun y hy k l hk hl => ⟨hy.pos k l hk hl, Int.le_trans (fit_row hy hk hl) (hR k hk)⟩)
  obtain ⟨gv, cv, _, _, hvv, _⟩ := Mine.cell hv (i := 0) (j := 0) (by have := hS.tl; have := hS.q1; omega) (by have := hS.tr 0 (by have := hS.q1; omega); have := hS.d1; omega)
  rw [hS.tl] at hvv
  subst hvv
  obtain ⟨Au, cu, huu, _, _, _⟩ := id hu
  rw [hS.ml] at huu
  subst huu
  obtain ⟨W2, hW, hb2, hz2, hf⟩ := two_fit w #[.int .i64 q, .int .i64 d, .slice (some ⟨gv, 0, none⟩) q cv, .slice Au q cu] #[.int .i64 i, .int .i64 j] TF TPl
  have HW := Lib.hid hW.symm
  have HZ2 := Lib.hid hz2
  have HB2 := Lib.hid hb2
  obtain ⟨f1, f2, _⟩ := hf W2 (Below.refl _ _)
  have HF1 := Lib.hid f1
  have HF2 := Lib.hid f2
  have HV2 := Lib.hid (hv.below hb2)
  obtain ⟨p0, p1, p2, p3⟩ := blkF f1
  obtain ⟨q0, q1, _, _⟩ := blk2 f2
  have HWB := Lib.hid (hb.trans (hb2.mono hb.size))
  have HX4 := Lib.hid (show ∀ k l, k < q → l < d → 0 ≤ cF x k l ∧ cF x k l ≤ 396 from HCB.out _ (FitF.refl hx))
  clear hu hS hx hR hs hb hv hB hW hb2 hz2 hf f1 f2
  rw [← HW.out] at p0 p1 p2 p3 q0 q1
  go_enter Tryd.func102, Tryd.ntmps102
  go_wp2_with fail
  rw [HW.out]
  refine (iRing_is W2 x _ HV2.out.is m _ (HU.out.below HWB.out) q d HSH.out HX4.out i j hi hj s0 HS.out W2 (Below.refl _ _)).mono ?_
  clear p0 p1 p2 p3 q0 q1
  have fin : ∀ (w1 : World) (last ok : Value), Below W2.heap.size W2 w1 → Tld q d (hF m) (cF x) i j s0 T w1 last ok → ∃ t', InR w1 B T (.slice (some ⟨gv, 0, none⟩) q cv) t' ∧ Shp t' m q d ∧ FitF q d (hF m) (cF x) (cF t') ∧ Below W.heap.size W w1 ∧ w1.heap[w.heap.size]? = some (.cells #[.int .i64 q, .int .i64 d, .slice (some ⟨gv, 0, none⟩) q cv, .slice Au q cu] TF (0, 0)) ∧ w1.heap[w.heap.size + 1]? = some (.cells #[.int .i64 i, .int .i64 j] TPl (0, 0)) ∧ Tld q d (hF m) (cF t') i j s0 T w1 last ok ∧ far s0 (cF t' i j) + 1 ≤ 400 := fun w1 last ok h1 ht =>
    ⟨x, HV2.out.below h1, HSH.out, FitF.refl HX.out, HWB.out.trans (h1.mono HWB.out.size), (h1.block _ (by have := HZ2.out; omega)).trans HF1.out, (h1.block _ (by have := HZ2.out; omega)).trans HF2.out, ht, by
      have := HX4.out i j hi hj
      unfold far; split <;> omega⟩
  have FIN := Lib.hid fin
  clear fin
  rintro e w1 ⟨h1, hres⟩
  have HRES := Lib.hid (show ∃ last ok, e = .returned (.tuple #[last, ok]) ∧ Tld q d (hF m) (cF x) i j s0 T w1 last ok from by
    rcases hres with ⟨rfl, h2, h3⟩ | ⟨b, l, rfl, h2, h3, h4⟩
    · exact ⟨_, _, rfl, .inl ⟨rfl, rfl, h2, h3⟩⟩
    · exact ⟨_, _, rfl, .inr ⟨b, l, rfl, rfl, h2, fun p hp => by have := h3 p hp; have := HTW.out; have := HB2.out.size; omega, h4⟩⟩)
  clear hres
  obtain ⟨last, ok, rfl, ht⟩ := HRES.out
  have HIN := Lib.hid (FIN.out w1 last ok h1 ht)
  clear h1 ht HRES FIN
  go_wp2
  go_loopg [7, 8] 400 (fun k last ok wr => ∃ t', InR wr B T (.slice (some ⟨gv, 0, none⟩) q cv) t' ∧ Shp t' m q d ∧ FitF q d (hF m) (cF x) (cF t') ∧ Below W.heap.size W wr ∧ wr.heap[w.heap.size]? = some (.cells #[.int .i64 q, .int .i64 d, .slice (some ⟨gv, 0, none⟩) q cv, .slice Au q cu] TF (0, 0)) ∧ wr.heap[w.heap.size + 1]? = some (.cells #[.int .i64 i, .int .i64 j] TPl (0, 0)) ∧ Tld q d (hF m) (cF t') i j s0 T wr last ok ∧ far s0 (cF t' i j) + 1 ≤ k)
  case atStart => exact HIN.out
  case round =>
    clear HIN HV2 HF1 HF2 HWB
    obtain ⟨t', hm, hs', hfit, hbw, hf1, hf2, htl, hk⟩ := hrel
    have HM := Lib.hid hm
    have HS' := Lib.hid hs'
    have HFIT := Lib.hid hfit
    have HBW := Lib.hid hbw
    have HF1 := Lib.hid hf1
    have HF2 := Lib.hid hf2
    have HK := Lib.hid hk
    obtain ⟨p0, p1, p2, p3⟩ := blkF hf1
    obtain ⟨q0, q1, _, _⟩ := blk2 hf2
    have HCT := Lib.hid (HCB.out _ hfit)
    clear hm hs' hfit hbw hf1 hf2 hk
    rcases htl with ⟨rfl, rfl, h1, h2⟩ | ⟨b, l, rfl, rfl, hc, hbl, hrg⟩
    · have H1 := Lib.hid h1
      have H2 := Lib.hid h2
      clear h1 h2
      go_wp2_with fail
      refine (iAt_is wr t' _ HM.out.is (.slice Au q cu) q d HS'.out.tl HS'.out.tr i j hi hj wr (Below.refl _ _)).mono ?_
      rintro e w5 ⟨rfl, h5⟩
      go_wp2
      go_ret
      refine ⟨cF t' i j, rfl, HBW.out.trans (h5.mono HBW.out.size), fun e => ⟨⟨_, HFIT.out, rfl⟩, fun z hz => ?_⟩, fun e => ⟨⟨_, HFIT.out, rfl⟩, fun z hz => ?_⟩⟩
      · exact H1.out e z ((HFIT.out.symm HX.out).trans hz)
      · exact H2.out e z ((HFIT.out.symm HX.out).trans hz)
    · have HC5 := Lib.hid hc
      have HBL := Lib.hid hbl
      have HRG := Lib.hid hrg
      obtain ⟨hrf, hrv, hr1, hr2⟩ := hrg.fit HFIT.out.pos HS.out
      have HRF := Lib.hid hrf
      have HRV := Lib.hid hrv
      clear hc hbl hrg hrf hrv
      go_wp2_with fail
      refine (iTrn_is t' m q d HS'.out HCT.out i j s0 l HRG.out (.slice Au q cu) wr B T _ HM.out b HC5.out HBL.out).mono ?_
      rintro e w5 ⟨rfl, t2, hm2, hs2, hcf2, hwi2⟩
      have hBW : W.heap.size ≤ B := HBB.out
      have hTw := HTW.out
      have hwi : ∀ {k : Nat} {o : Obj}, T ≤ k → wr.heap[k]? = some o → w5.heap[k]? = some o := fun hk h => (hwi2.2.2.2.2 _ (Array.getElem?_eq_some_iff.1 h).1 (.inr hk)).trans h
      have g1 := hwi hTw HF1.out
      have g2 := hwi (by omega) HF2.out
      have HG1 := Lib.hid g1
      have HG2 := Lib.hid g2
      have HM2 := Lib.hid hm2
      have HS2 := Lib.hid hs2
      have HFT := Lib.hid (show FitF q d (hF m) (cF t') (cF t2) by rw [hcf2]; exact HRF.out)
      have HVAL := Lib.hid (show cF t2 i j = cF t' i j + s0 * mst (cF t') (vs l) by rw [hcf2]; exact HRV.out)
      have HB5 := Lib.hid (below_within HBW.out hwi2 hBW)
      have HF5 := Lib.hid (HFIT.out.trans HFT.out)
      have hlow := HCB.out _ HF5.out i j hi hj
      have hold := HCT.out i j hi hj
      have HFAR := Lib.hid (show far s0 (cF t2 i j) + 1 ≤ far s0 (cF t' i j) by
        rw [HVAL.out] at hlow ⊢
        exact far_less HS.out hr1 hold hlow)
      obtain ⟨p0, p1, p2, p3⟩ := blkF g1
      obtain ⟨q0, q1, _, _⟩ := blk2 g2
      clear hm2 hs2 hcf2 hwi2 hwi g1 g2 hlow hold hr1 hr2
      go_wp2_with fail
      refine (iRing_is w5 t2 _ HM2.out.is m _ (HU.out.below HB5.out) q d HS2.out (HCB.out _ HF5.out) i j hi hj s0 HS.out w5 (Below.refl _ _)).mono ?_
      rintro e w6 ⟨h6, hres⟩
      have HRES := Lib.hid (show ∃ last ok, e = .returned (.tuple #[last, ok]) ∧ Tld q d (hF m) (cF t2) i j s0 T w6 last ok from by
        rcases hres with ⟨rfl, h2, h3⟩ | ⟨b, l, rfl, h2, h3, h4⟩
        · exact ⟨_, _, rfl, .inl ⟨rfl, rfl, h2, h3⟩⟩
        · exact ⟨_, _, rfl, .inr ⟨b, l, rfl, rfl, h2, fun p hp => by have := h3 p hp; have := HM2.out.1; omega, h4⟩⟩)
      clear hres
      obtain ⟨last, ok, rfl, ht⟩ := HRES.out
      have HT6 := Lib.hid ht
      have HB6 := Lib.hid h6
      clear ht HRES h6 p0 p1 p2 p3 q0 q1
      go_wp2
      go_roundg (gk - 1)
      case measure => have := HK.out; have := HFAR.out; omega
      case rel => exact ⟨t2, HM2.out.below HB6.out, HS2.out, HF5.out, HB5.out.trans (HB6.out.mono HB5.out.size), (HB6.out.block _ (Array.getElem?_eq_some_iff.1 HG1.out).1).trans HG1.out, (HB6.out.block _ (Array.getElem?_eq_some_iff.1 HG2.out).1).trans HG2.out, HT6.out, by have := HK.out; have := HFAR.out; omega⟩
end Go.Proofs.YtobgceebolmfcaaDoor
namespace Go.Proofs.YtobgceebolmfcaaDoor
open Go.RowKit Go.Shelf
/-- A row of rows of one's own is overwritten in its place. -/
theorem Mine.rowIn {w : World} {B T : Nat} {v : Value} {ll : List (List Int)} (h : Mine w B T v ll) {i : Nat} (hi : i < ll.length) (h0 : 0 < (ll.getD i []).length) :
    ∃ g c gi ci cur, v = .slice (some ⟨g, 0, none⟩) ll.length c ∧ w.cell? ⟨g, i, none⟩ = some (.slice (some ⟨gi, 0, none⟩) (ll.getD i []).length ci) ∧ (B ≤ gi ∧ gi < T) ∧ w.heap[gi]? = some (.cells cur TN (0, 0)) ∧ (ll.getD i []).length ≤ cur.size ∧
      ∀ (x : List Int) (X : World), x.length = (ll.getD i []).length → X.heap[gi]? = some (.cells (icells x ++ cur.toList.drop x.length).toArray TN (0, 0)) → (∀ k, k ≠ gi → X.heap[k]? = w.heap[k]?) → w.heap.size ≤ X.heap.size → Mine X B T v (ll.set i x) := by
  obtain ⟨hT, hv, hs, ho, hr⟩ := h
  have hl := hr.1
  obtain ⟨g, c, rfl⟩ := ho.slice (by omega)
  have hgT := hv g rfl
  obtain ⟨hri, hbi⟩ := hr.2.1 i hi
  rcases hri.2 with ⟨_, h9⟩ | ⟨gi, ci, cur, hvi, hgiB, hgh, hnc, hcm, hsz, htk⟩
  · rw [icells_len] at h9; omega
  rw [icells_len] at hvi hnc htk
  have hgi := hbi gi (by rw [hvi]; rfl)
  have hne : g ≠ gi := fun e => hgi.2 (by rw [e]; rfl)
  have hc0 : w.cell? ⟨g, i, none⟩ = hs[i]? := (ho.cellAt i (by omega)).1
  refine ⟨g, c, gi, ci, cur, by rw [hl], by rw [hc0, getD_at hs nilS (by omega), hvi], ⟨hgiB, hgi.1⟩, hgh, by omega, fun x X hx hX hk hz => ?_⟩
  refine ⟨Nat.le_trans hT hz, hv, hs, ho.same fun k e => hk k fun ekg => hne (by have e2 : some g = some k := e; injection e2 with e2; omega), ⟨by rw [List.length_set]; exact hl, fun i' hi' => ?_, fun a b k hab hb => ?_⟩⟩
  · rw [List.length_set] at hi'
    by_cases e : i = i'
    · subst e
      have e1 : (ll.set i x).getD i [] = x := by rw [List.getD_eq_getElem?_getD, List.getElem?_set_self hi]; rfl
      rw [e1]
      refine ⟨⟨by rw [icells_len]; omega, .inr ⟨gi, ci, _, by rw [hvi, icells_len, hx], hgiB, hX, by rw [icells_len]; omega, hcm, ?_, ?_⟩⟩, hbi⟩
      · simp [icells_len]; omega
      · rw [Nat.mul_one]; exact List.take_left
    · have e1 : (ll.set i x).getD i' [] = ll.getD i' [] := by rw [List.getD_eq_getElem?_getD, List.getElem?_set_ne e, List.getD_eq_getElem?_getD]
      rw [e1]
      obtain ⟨h1, h2⟩ := hr.2.1 i' hi'
      refine ⟨h1.same fun k ek => hk k fun ekg => ?_, h2⟩
      subst ekg
      rcases Nat.lt_or_ge i i' with hlt | hge
      · exact hr.2.2 i i' k hlt hi' (by rw [hvi]; rfl) ek
      · exact hr.2.2 i' i k (by omega) hi ek (by rw [hvi]; rfl)
  · rw [List.length_set] at hb
    exact hr.2.2 a b k hab hb
theorem set4b {w : World} {g : Nat} {t : TypeId} {a0 a1 a2 a3 : Value} (h : w.heap[g]? = some (.cells #[a0, a1, a2, a3] t (0, 0))) (b0 b1 b2 b3 : Value) :
    ((((w.setCell ⟨g, 0, none⟩ b0).setCell ⟨g, 1, none⟩ b1).setCell ⟨g, 2, none⟩ b2).setCell ⟨g, 3, none⟩ b3).heap[g]? = some (.cells #[b0, b1, b2, b3] t (0, 0)) := by
  simp [World.setCell, Array.getElem?_modify, h]
theorem blkF4 {w : World} {g : Nat} {t : TypeId} {a b c d : Value} (h : w.heap[g]? = some (.cells #[a, b, c, d] t (0, 0))) :
    w.frozen? ⟨g, 0, none⟩ = false ∧ w.frozen? ⟨g, 1, none⟩ = false ∧ w.frozen? ⟨g, 2, none⟩ = false ∧ w.frozen? ⟨g, 3, none⟩ = false := by
  refine ⟨?_, ?_, ?_, ?_⟩ <;> simp [World.frozen?, h]
/-- The first k rows of t, the others zeros. -/
def cpTo (t : Tb) (d k : Nat) : Tb := t.take k ++ List.replicate (t.length - k) (zerow d)
theorem cpTo_zero (t : Tb) (d : Nat) : cpTo t d 0 = List.replicate t.length (zerow d) := by simp [cpTo]
theorem cpTo_all (t : Tb) (d : Nat) : cpTo t d t.length = t := by simp [cpTo]
theorem cpTo_len (t : Tb) {d k : Nat} (hk : k ≤ t.length) : (cpTo t d k).length = t.length := by simp [cpTo]; omega
theorem cpTo_row (t : Tb) {d k : Nat} (hk : k < t.length) : ((cpTo t d k).getD k []).length = d := by
  unfold cpTo
  rw [List.getD_eq_getElem?_getD, List.getElem?_append_right (by simp; omega), List.length_take, Nat.min_eq_left (by omega), Nat.sub_self, List.getElem?_replicate, if_pos (by omega)]
  simp [zerow]
theorem cpTo_step (t : Tb) {d k : Nat} (hk : k < t.length) : (cpTo t d k).set k (t.getD k []) = cpTo t d (k + 1) := by
  unfold cpTo
  obtain ⟨n, hn⟩ : ∃ n, t.length - k = n + 1 := ⟨t.length - k - 1, by omega⟩
  rw [hn, show t.length - (k + 1) = n by omega, List.set_append_right _ _ (by simp; omega), List.length_take, Nat.min_eq_left (by omega), Nat.sub_self, List.replicate_succ, List.set_cons_zero, List.take_succ_eq_append_getElem hk, getD_of _ _ hk, List.append_assoc]
  rfl
/-- What fitOf hands back. -/
def OutFit (W : World) (q d : Nat) (t : Tb) (u : Value) (g : Bool) (w : World) (e : Ending) (w' : World) : Prop :=
  Below W.heap.size W w' ∧ ((g = false ∧ e = .returned (.tuple #[fitV 0 0 (.slice none 0 0) (.slice none 0 0), .bool false])) ∨
    (g = true ∧ ∃ v', e = .returned (.tuple #[fitV q d v' u, .bool true]) ∧ InR w' w.heap.size w'.heap.size v' t))
set_option maxRecDepth 100000 in
set_option maxHeartbeats 8000000 in
theorem iFitOf_is (W : World) (t : Tb) (v : Value) (hv : IsR W v t) (m : Mk) (u : Value) (hu : IsM W u m) (g : Bool) (hg : mkOk t m = g) (w : World) (hb : Below W.heap.size W w) :
    Calls Tryd.prog 100 #[v, u] w (OutFit W t.length (wd t) t u g w) := by
  have HU := Lib.hid hu
  have HG := Lib.hid hg
  have HB := Lib.hid hb
  obtain ⟨A, c, rfl, _, _, hL⟩ := id hv
  have HV := Lib.hid hv
  have HL := Lib.hid hL
  obtain ⟨Au, cu, rfl, _, _, _⟩ := hu
  obtain ⟨q, hq⟩ : ∃ q, t.length = q := ⟨_, rfl⟩
  obtain ⟨d, hd⟩ : ∃ d, wd t = d := ⟨_, rfl⟩
  obtain ⟨mq, hmq⟩ : ∃ mq, m.length = mq := ⟨_, rfl⟩
  have HQ := Lib.hid hq
  have HD := Lib.hid hd
  have HMQ := Lib.hid hmq
  rw [hq, hd]
  rw [hmq] at HU ⊢
  rw [hq] at HV
  obtain ⟨tt, htt⟩ : ∃ tt, tabOk t = tt := ⟨_, rfl⟩
  have HT := Lib.hid htt
  obtain ⟨W1, hW1, b1, hz1, k1⟩ := one_blk w #[.int .i64 0, .int .i64 0, .slice none 0 0, .slice none 0 0] TF
  have HW1 := Lib.hid hW1.symm
  have HB1 := Lib.hid (hb.trans (b1.mono hb.size))
  have HL1 := Lib.hid (show ∀ X, Below W1.heap.size W1 X → X.heap[w.heap.size]? = some (.cells #[.int .i64 0, .int .i64 0, .slice none 0 0, .slice none 0 0] TF (0, 0)) ∧ Below w.heap.size w X from fun X h => ⟨(h.block _ (by omega)).trans k1, b1.trans (h.mono b1.size)⟩)
  have HZ1 := Lib.hid hz1
  have hWw := hb.size
  clear hg hb hv hL hq hd hmq htt hW1 b1 hz1 k1
  go_enter Tryd.func100, Tryd.ntmps100
  go_wp2_with fail
  rw [HW1.out]
  refine (iTGrid_is W1 t _ (HV.out.below HB1.out) tt HT.out _ (Below.refl _ _)).mono ?_
  rintro e w1 ⟨rfl, h1⟩
  have HBW := Lib.hid h1
  have hz := h1.size
  have fail_ : ∀ X, Below W1.heap.size W1 X → g = false → Below W.heap.size W ((((X.setCell ⟨w.heap.size, 0, none⟩ (.int .i64 0)).setCell ⟨w.heap.size, 1, none⟩ (.int .i64 0)).setCell ⟨w.heap.size, 2, none⟩ (.slice none 0 0)).setCell ⟨w.heap.size, 3, none⟩ (.slice none 0 0)) := fun X hX _ =>
    ((((HB1.out.trans (hX.mono HB1.out.size)).setCell (p := ⟨w.heap.size, 0, none⟩) hWw _).setCell (p := ⟨w.heap.size, 1, none⟩) hWw _).setCell (p := ⟨w.heap.size, 2, none⟩) hWw _).setCell (p := ⟨w.heap.size, 3, none⟩) hWw _
  have HFAIL := Lib.hid fail_
  clear h1 fail_
  cases tt
  · have HE := Lib.hid (show g = false by rw [← HG.out, mkOk, HT.out]; rfl)
    rw [gridV_no]
    obtain ⟨w2, hw2, b2, hz2, _⟩ := one_blk w1 #[.int .i64 0, .int .i64 0, .slice none 0 0] TGI
    have HW2 := Lib.hid hw2.symm
    have HB2 := Lib.hid (HBW.out.trans (b2.mono hz))
    obtain ⟨c0, c1, c2, c3⟩ := blkF (HL1.out w2 HB2.out).1
    obtain ⟨f0, f1, f2, f3⟩ := blkF4 (HL1.out w2 HB2.out).1
    rw [← HW2.out] at c0 c1 c2 c3 f0 f1 f2 f3
    clear hw2 b2 hz2
    go_wp2
    rw [HW2.out]
    refine bodyPost_ret (v := .tuple #[fitV 0 0 (.slice none 0 0) (.slice none 0 0), .bool false]) (by rw [HW2.out] at c0 c1 c2 c3 f0 f1 f2 f3; simp [results, Tryd.results100, go_sem, *]) rfl ?_
    exact ⟨HFAIL.out w2 HB2.out HE.out, .inl ⟨HE.out, rfl⟩⟩
  have hq4 : q ≤ 4 := by have := (tab_iff.1 HT.out).h4; have := HQ.out; omega
  have hd4 : d ≤ 4 := by have := (tab_iff.1 HT.out).w4; have := HD.out; omega
  have hd1 : 1 ≤ d := by have := (tab_iff.1 HT.out).w1; have := HD.out; omega
  rw [gridV_yes, HQ.out, HD.out]
  obtain ⟨w2, hw2, b2, hz2, k2⟩ := one_blk w1 #[.int .i64 q, .int .i64 d, .slice A q c] TGI
  have HW2 := Lib.hid hw2.symm
  have HB2 := Lib.hid (HBW.out.trans (b2.mono hz))
  have HK2 := Lib.hid (show ∀ X, Below w2.heap.size w2 X → X.heap[w1.heap.size]? = some (.cells #[.int .i64 q, .int .i64 d, .slice A q c] TGI (0, 0)) from fun X h => (h.block _ (by omega)).trans k2)
  have HBW2 := Lib.hid (HB1.out.trans (HB2.out.mono HB1.out.size))
  clear hw2 b2 hz2 k2
  go_wp2_with fail
  rw [HW2.out]
  refine (iMask_is w2 t _ (HV.out.below HBW2.out) m _ (HU.out.below HBW2.out) g HG.out w2 (Below.refl _ _)).mono ?_
  rintro e w3 ⟨rfl, h3⟩
  have HB3 := Lib.hid (HB2.out.trans (h3.mono HB2.out.size))
  have HKK3 := Lib.hid (HK2.out w3 h3)
  clear h3
  cases g
  · obtain ⟨c0, c1, c2, c3⟩ := blkF (HL1.out w3 HB3.out).1
    obtain ⟨f0, f1, f2, f3⟩ := blkF4 (HL1.out w3 HB3.out).1
    go_wp2
    refine bodyPost_ret (v := .tuple #[fitV 0 0 (.slice none 0 0) (.slice none 0 0), .bool false]) (by simp [results, Tryd.results100, go_sem, *]) rfl ?_
    exact ⟨HFAIL.out w3 HB3.out trivial, .inl ⟨rfl, rfl⟩⟩
  obtain ⟨e0, e1, e2, _, _, _⟩ := blkG3 HKK3.out
  go_wp2_with fail
  refine (iNew_any q d hq4 hd4 w3).mono ?_
  rintro e w4 ⟨g2, c2, rfl, hm4, hb4⟩
  obtain ⟨w5, hw5, b5, hz5, k5⟩ := one_blk w4 #[.int .i64 q, .int .i64 d, .slice (some ⟨g2, 0, none⟩) q c2] TGI
  have HW5 := Lib.hid hw5.symm
  have h34 := hb4.size
  have HB5 := Lib.hid (show Below w3.heap.size w3 w5 from hb4.trans (b5.mono h34))
  have HM5 := Lib.hid (show Mine w5 w3.heap.size w4.heap.size (.slice (some ⟨g2, 0, none⟩) q c2) (cpTo t d 0) by rw [cpTo_zero, HQ.out]; exact hm4.below b5)
  have HK5 := Lib.hid k5
  have HW3 := Lib.hid (show Below W.heap.size W w3 from HB1.out.trans (HB3.out.mono HB1.out.size))
  have HKT := Lib.hid (show ∀ X, Below w3.heap.size w3 X → X.heap[w1.heap.size]? = some (.cells #[.int .i64 q, .int .i64 d, .slice A q c] TGI (0, 0)) from fun X h => (h.block _ (Array.getElem?_eq_some_iff.1 HKK3.out).1).trans HKK3.out)
  obtain ⟨x0, x1, x2, _, _, _⟩ := blkG3 (HKT.out w5 HB5.out)
  rw [← HW5.out] at x0 x1 x2
  have hsz : (Tryd.prog.info? TN).map (·.size) = some 1 := by kernel_rfl
  have HSZ := Lib.hid hsz
  clear e0 e1 e2 hm4 hb4 hw5 b5 hz5 k5 hsz
  go_wp2
  rw [HW5.out]
  clear x0 x1 x2
  go_loopw [31] (fun a wr => ∃ k : Nat, k ≤ q ∧ a = .int .i64 k ∧ Mine wr w3.heap.size w4.heap.size (.slice (some ⟨g2, 0, none⟩) q c2) (cpTo t d k) ∧ Below w3.heap.size w3 wr ∧ wr.heap[w4.heap.size]? = some (.cells #[.int .i64 q, .int .i64 d, .slice (some ⟨g2, 0, none⟩) q c2] TGI (0, 0))) (fun a _ => q - (intOf a).toNat)
  case atStart => exact ⟨0, Nat.zero_le _, rfl, HM5.out, HB5.out, HK5.out⟩
  case round =>
    clear HM5 HB5 HK5
    obtain ⟨k, hk, rfl, hm, hb, hkb⟩ := hrel
    have HM := Lib.hid hm
    have HB := Lib.hid hb
    have HKB := Lib.hid hkb
    obtain ⟨y0, y1, y2, _, _, _⟩ := blkG3 hkb
    by_cases hlt : k < q
    · have hki : (k : Int) < (q : Int) := by omega
      have hkt : k < t.length := by rw [HQ.out]; exact hlt
      have hln : (t.getD k []).length = d := by rw [tab_lens HT.out hkt, HD.out]
      obtain ⟨b, o, A1, c1, hA, hb1, hc1, _, _, hr1⟩ := HL.out.at_ k hkt
      subst hA
      obtain ⟨b2, o2, rfl, hb2, hcell⟩ : ∃ b2 o2, A1 = some ⟨b2, o2, none⟩ ∧ b2 < W.heap.size ∧ ∀ j u, (icells (t.getD k []))[j]? = some u → W.cell? ⟨b2, o2 + j, none⟩ = some u := by
        rcases hr1 with h | ⟨b2, o2, h1, h2, h3⟩
        · have h9 := icells_len (t.getD k [])
          rw [h, hln] at h9
          simp only [List.length_nil] at h9
          omega
        · exact ⟨b2, o2, h1, h2, h3⟩
      have hWX := HW3.out.trans (hb.mono HW3.out.size)
      have s1 := (hWX.cell (p := ⟨b, o + k, none⟩) hb1).trans hc1
      rw [hln] at s1
      obtain ⟨g', c', gi, ci, cur, hv', m0, hgi, mh, mc, hput⟩ := Mine.rowIn hm (i := k) (by rw [cpTo_len t (by omega)]; exact hkt) (by rw [cpTo_row t hkt]; omega)
      injection hv' with hv1 hv2 hv3
      injection hv1 with hv1
      injection hv1 with hv1 _ _
      subst hv1 hv3
      rw [cpTo_row t hkt] at m0 mc
      obtain ⟨row, hrow⟩ : ∃ row, t.getD k [] = row := ⟨_, rfl⟩
      rw [hrow] at hcell hln
      obtain ⟨cs, hcs⟩ : ∃ cs, icells row = cs := ⟨_, rfl⟩
      rw [hcs] at hcell
      have hcl : cs.length = d := by rw [← hcs, icells_len]; exact hln
      have HSRC := Lib.hid (show ∀ j u, cs[j]? = some u → wr.cell? ((⟨b2, o2, none⟩ : Addr).add j) = some u from fun j u hu => by rw [Addr.add_lit]; exact (hWX.cell (p := ⟨b2, o2 + j, none⟩) hb2).trans (hcell j u hu))
      have HN := Lib.hid (show cs.length = Nat.min d d by rw [hcl]; exact (Nat.min_self d).symm)
      have HFIT := Lib.hid (show 0 + cs.length ≤ cur.size by omega)
      have HONE := Lib.hid (show ∀ u ∈ cs, u.oneCell' = true by rw [← hcs]; exact icells_one row)
      have HMH := Lib.hid mh
      have HEND := Lib.hid (show ∀ X : World, X = wr.setRow gi (cur.toList.take 0 ++ (cs ++ cur.toList.drop (0 + cs.length))).toArray → Mine X w3.heap.size w4.heap.size (.slice (some ⟨g2, 0, none⟩) q c2) (cpTo t d (k + 1)) ∧ Below w3.heap.size w3 X ∧ X.heap[w4.heap.size]? = some (.cells #[.int .i64 q, .int .i64 d, .slice (some ⟨g2, 0, none⟩) q c2] TGI (0, 0)) from fun X hX => by
        have hX1 : X.heap[gi]? = some (.cells (icells row ++ cur.toList.drop row.length).toArray TN (0, 0)) := by
          rw [hX, setRow_heap wr gi cur _ TN (0, 0) mh, hcs]
          congr 2
          rw [List.take_zero, List.nil_append, Nat.zero_add, hcl, hln]
        have hXk : ∀ a, a ≠ gi → X.heap[a]? = wr.heap[a]? := fun a ha => by rw [hX]; exact setRow_other wr gi a _ ha
        have hXz : wr.heap.size ≤ X.heap.size := by rw [hX]; simp [World.setRow]
        refine ⟨?_, by rw [hX]; exact below_setRow hb hgi.1 _, (hXk _ (by omega)).trans hkb⟩
        have h9 := hput row X (by rw [cpTo_row t hkt]; exact hln) hX1 hXk hXz
        rw [← hrow, cpTo_step t hkt] at h9
        exact h9)
      clear hm hb hkb hkt hb1 hc1 hr1 hb2 hcell hWX hv2 hput mh mc hgi hrow hcs hcl hln
      go_wp2_with (first
        | (refine wpList_copy_own rfl (.tmp 40) (.tmp 41) TI TI rfl TN Tryd.underlying30 HSZ.out gi 0 d ci ⟨b2, o2, none⟩ d c1 rfl rfl cur TN HMH.out cs HN.out HSRC.out HFIT.out HONE.out ?_
           obtain ⟨X, hX⟩ : ∃ X, X = wr.setRow gi (cur.toList.take 0 ++ (cs ++ cur.toList.drop (0 + cs.length))).toArray := ⟨_, rfl⟩
           rw [← hX]
           obtain ⟨a1, a2, a3⟩ := HEND.out X hX
           have HA1 := Lib.hid a1
           have HA2 := Lib.hid a2
           have HA3 := Lib.hid a3
           clear a1 a2 a3 hX)
        | fail)
      go_roundw
      case rel => exact ⟨k + 1, by omega, by go_num, HA1.out, HA2.out, HA3.out⟩
      case measure => simp [intOf]; omega
    · have hki : ¬ (k : Int) < (q : Int) := by omega
      have hkq : k = q := by omega
      have hB3 := HB3.out.trans (hb.mono HB3.out.size)
      have HRES := Lib.hid (HL1.out wr hB3).1
      obtain ⟨c0, c1, c2', c3⟩ := blkF (HL1.out wr hB3).1
      obtain ⟨f0, f1, f2, f3⟩ := blkF4 (HL1.out wr hB3).1
      have HFIN := Lib.hid (show Below W.heap.size W ((((wr.setCell ⟨w.heap.size, 0, none⟩ (.int .i64 q)).setCell ⟨w.heap.size, 1, none⟩ (.int .i64 d)).setCell ⟨w.heap.size, 2, none⟩ (.slice (some ⟨g2, 0, none⟩) q c2)).setCell ⟨w.heap.size, 3, none⟩ (.slice Au mq cu)) from
        ((((HB1.out.trans (hB3.mono HB1.out.size)).setCell (p := ⟨w.heap.size, 0, none⟩) hWw _).setCell (p := ⟨w.heap.size, 1, none⟩) hWw _).setCell (p := ⟨w.heap.size, 2, none⟩) hWw _).setCell (p := ⟨w.heap.size, 3, none⟩) hWw _)
      have hlt3 : w.heap.size < w3.heap.size := by have := HB3.out.size; have := HZ1.out; omega
      have HMF := Lib.hid (show ∀ X : World, (∀ a, a ≠ w.heap.size → X.heap[a]? = wr.heap[a]?) → X.heap.size = wr.heap.size → InR X w.heap.size X.heap.size (.slice (some ⟨g2, 0, none⟩) q c2) t from fun X h1 h2 => by
        have h9 := HM.out
        rw [hkq, ← HQ.out, cpTo_all] at h9
        have h8 := h9.same (w' := X) (by omega) fun a ha _ => h1 a (by omega)
        rw [← HQ.out]
        exact (h8.up.lower (by omega)))
      clear hm hb hkb hB3 hkq
      go_wp2
      refine bodyPost_ret (v := .tuple #[fitV q d (.slice (some ⟨g2, 0, none⟩) q c2) (.slice Au mq cu), .bool true]) (by simp [results, Tryd.results100, go_sem, *]) rfl ?_
      refine ⟨HFIN.out, .inr ⟨rfl, _, rfl, HMF.out _ (fun a ha => ?_) (by simp [World.setCell])⟩⟩
      rw [Below.heap_setCell _ ⟨w.heap.size, 3, none⟩ _ a ha, Below.heap_setCell _ ⟨w.heap.size, 2, none⟩ _ a ha, Below.heap_setCell _ ⟨w.heap.size, 1, none⟩ _ a ha, Below.heap_setCell _ ⟨w.heap.size, 0, none⟩ _ a ha]
end Go.Proofs.YtobgceebolmfcaaDoor
namespace Go.Proofs.YtobgceebolmfcaaDoor
open Go.RowKit Go.Shelf
set_option maxRecDepth 100000 in
set_option maxHeartbeats 4000000 in
theorem iBound_is (W : World) (t : Tb) (v : Value) (hv : IsR W v t) (m : Mk) (u : Value) (hu : IsM W u m) (i j : Int) (s0 : Int) (hs : s0 = 1 ∨ s0 = -1) (g : Int) (hg : (if s0 = 1 then hiI t m i j else loI t m i j) = g) (w : World) (hb : Below W.heap.size W w) :
    Calls Tryd.prog 97 #[v, u, plV i j, .int .i64 s0] w (Back (.int .i64 g) W) := by
  have HV := Lib.hid hv
  have HU := Lib.hid hu
  have HS := Lib.hid hs
  have HG := Lib.hid hg
  obtain ⟨q, hq⟩ : ∃ q, t.length = q := ⟨_, rfl⟩
  obtain ⟨d, hd⟩ : ∃ d, wd t = d := ⟨_, rfl⟩
  obtain ⟨mk, hmk⟩ : ∃ mk, mkOk t m = mk := ⟨_, rfl⟩
  have HQ := Lib.hid hq
  have HD := Lib.hid hd
  have HMK := Lib.hid hmk
  obtain ⟨W1, hW1, b1, hz1, k1⟩ := one_blk w #[.int .i64 i, .int .i64 j] TPl
  have HW1 := Lib.hid hW1.symm
  have HB1 := Lib.hid (hb.trans (b1.mono hb.size))
  have HK1 := Lib.hid (show ∀ X, Below W1.heap.size W1 X → X.heap[w.heap.size]? = some (.cells #[.int .i64 i, .int .i64 j] TPl (0, 0)) from fun X h => (h.block _ (by omega)).trans k1)
  obtain ⟨A, c, hvv, _, _, _⟩ := id hv
  obtain ⟨Au, cu, huu, _, _, _⟩ := id hu
  subst hvv huu
  clear hv hu hs hg hq hd hmk hb hW1 b1 hz1 k1
  go_enter Tryd.func97, Tryd.ntmps97
  go_wp2_with fail
  rw [HW1.out]
  refine (iFitOf_is W1 t _ (HV.out.below HB1.out) m _ (HU.out.below HB1.out) mk HMK.out W1 (Below.refl _ _)).mono ?_
  rintro e w2 ⟨h2, hres⟩
  have hz2 := h2.size
  cases mk
  · rcases hres with ⟨_, rfl⟩ | ⟨hh, _⟩
    · have HE := Lib.hid (show g = -1 by
        have hno : bOk t m i j = false := by rw [bOk, HMK.out]; rfl
        rw [← HG.out, hiI_no hno, loI_no hno]; split <;> rfl)
      have HB2 := Lib.hid (HB1.out.trans (h2.mono HB1.out.size))
      clear h2
      go_wp2
      go_ret
      exact ⟨by rw [HE.out]; rfl, HB2.out.alloc HB2.out.size _⟩
    · cases hh
  rcases hres with ⟨hh, _⟩ | ⟨_, v', rfl, hm⟩
  · cases hh
  rw [HQ.out, HD.out]
  have ht := mk_tab HMK.out
  have hq1 : 1 ≤ q := by have := ht.h1; have := HQ.out; omega
  have hd1 : 1 ≤ d := by have := ht.w1; have := HD.out; omega
  obtain ⟨gv, cv, _, _, hvv, _⟩ := Mine.cell hm (i := 0) (j := 0) ht.h1 (by rw [ht.rlen ht.h1]; exact ht.w1)
  rw [HQ.out] at hvv
  subst hvv
  obtain ⟨mq, hmq⟩ : ∃ mq, m.length = mq := ⟨_, rfl⟩
  rw [hmq] at HU ⊢
  obtain ⟨w3, hw3, b3, hz3, k3⟩ := one_blk w2 #[.int .i64 q, .int .i64 d, .slice (some ⟨gv, 0, none⟩) q cv, .slice Au mq cu] TF
  have HW3 := Lib.hid hw3.symm
  have HB3 := Lib.hid (h2.trans (b3.mono hz2))
  have HM3 := Lib.hid (hm.below b3)
  have HK3 := Lib.hid (show ∀ X, Below w3.heap.size w3 X → X.heap[w2.heap.size]? = some (.cells #[.int .i64 q, .int .i64 d, .slice (some ⟨gv, 0, none⟩) q cv, .slice Au mq cu] TF (0, 0)) from fun X h => (h.block _ (by omega)).trans k3)
  obtain ⟨p0, p1, _, _⟩ := blkF k3
  obtain ⟨q0, q1, _, _⟩ := blk2 (HK1.out w3 HB3.out)
  rw [← HW3.out] at p0 p1 q0 q1
  obtain ⟨ok, hok⟩ : ∃ ok, ((decide (0 ≤ i) && decide (i < (q : Int))) && (decide (0 ≤ j) && decide (j < (d : Int)))) = ok := ⟨_, rfl⟩
  have HOK := Lib.hid hok
  clear h2 hm hw3 b3 hz3 k3 hok ht
  go_wp2_with fail
  rw [HW3.out]
  refine (iHas_any q d i j ok HOK.out w3).mono ?_
  rintro e w4 ⟨rfl, h4⟩
  have HB4 := Lib.hid (HB3.out.trans (h4.mono HB3.out.size))
  have HM4 := Lib.hid (HM3.out.below h4)
  obtain ⟨p0', p1', p2', p3'⟩ := blkF (HK3.out w4 h4)
  obtain ⟨q0', q1', _, _⟩ := blk2 (HK1.out w4 HB4.out)
  have HWW4 := Lib.hid (HB1.out.trans (HB4.out.mono HB1.out.size))
  clear p0 p1 q0 q1 h4
  cases ok
  · have HE := Lib.hid (show g = -1 by
      have hno : bOk t m i j = false := by
        cases h9 : bOk t m i j
        · rfl
        · obtain ⟨_, a1, a2, a3, a4⟩ := bOk_iff.1 h9
          rw [HQ.out] at a2
          rw [HD.out] at a4
          have := HOK.out
          simp [a1, a2, a3, a4] at this
      rw [← HG.out, hiI_no hno, loI_no hno]; split <;> rfl)
    go_wp2
    go_ret
    exact ⟨by rw [HE.out]; rfl, HWW4.out⟩
  · have hok := HOK.out
    simp only [Bool.and_eq_true, decide_eq_true_eq] at hok
    obtain ⟨⟨hi0, hiq⟩, hj0, hjd⟩ := hok
    obtain ⟨a, rfl⟩ := Int.eq_ofNat_of_zero_le hi0
    obtain ⟨b, rfl⟩ := Int.eq_ofNat_of_zero_le hj0
    have HAQ := Lib.hid (show a < q by omega)
    have HBD := Lib.hid (show b < d by omega)
    have HSH := Lib.hid (show Shp t m q d by rw [← HQ.out, ← HD.out]; exact shp_of HMK.out)
    have HP := Lib.hid (show Pos q d (cF t) by rw [← HQ.out, ← HD.out]; exact (mk_tab HMK.out).posF)
    have HR := Lib.hid (show ∀ k, k < q → sm d (cF t k) ≤ 396 by rw [← HQ.out, ← HD.out]; exact fun k hk => (mk_tab HMK.out).row_le hk)
    clear hi0 hiq hj0 hjd
    go_wp2_with fail
    refine (iFth_is W1 m _ (HU.out.below HB1.out) t q d HSH.out HP.out HR.out a b HAQ.out HBD.out s0 HS.out w4 HB4.out W1.heap.size w2.heap.size (Nat.le_refl _) _ HM4.out).mono ?_
    rintro e w5 ⟨y, rfl, h5, hh, hl⟩
    have HE := Lib.hid (show g = y by
      rw [← HG.out]
      have h1 : IsHi t.length (wd t) (hF m) (cF t) a b y ∨ s0 ≠ 1 := by
        by_cases e : s0 = 1
        · left; rw [HQ.out, HD.out]; exact hh e
        · exact .inr e
      by_cases e : s0 = 1
      · rw [if_pos e]
        exact hiI_eq HMK.out (by rw [HQ.out]; exact HAQ.out) (by rw [HD.out]; exact HBD.out) (by rw [HQ.out, HD.out]; exact hh e)
      · rw [if_neg e]
        exact loI_eq HMK.out (by rw [HQ.out]; exact HAQ.out) (by rw [HD.out]; exact HBD.out) (by rw [HQ.out, HD.out]; exact hl (by have := HS.out; omega)))
    have HB5 := Lib.hid (HB1.out.trans (h5.mono HB1.out.size))
    clear hh hl h5
    go_wp2
    go_ret
    exact ⟨by rw [HE.out]; rfl, HB5.out⟩
set_option maxHeartbeats 1000000 in
theorem iHigh_is (W : World) (t : Tb) (v : Value) (hv : IsR W v t) (m : Mk) (u : Value) (hu : IsM W u m) (i j : Int) (g : Int) (hg : hiI t m i j = g) (w : World) (hb : Below W.heap.size W w) :
    Calls Tryd.prog 87 #[v, u, .int .i64 i, .int .i64 j] w (Back (.int .i64 g) W) := by
  go_enter Tryd.func87, Tryd.ntmps87
  go_wp2_with fail
  refine (iBound_is W t _ hv m _ hu i j 1 (.inl rfl) g (by rw [if_pos rfl]; exact hg) w hb).mono ?_
  rintro e w1 ⟨rfl, b1⟩
  go_wp2
  go_ret
  exact ⟨rfl, b1⟩
set_option maxHeartbeats 1000000 in
theorem iLow_is (W : World) (t : Tb) (v : Value) (hv : IsR W v t) (m : Mk) (u : Value) (hu : IsM W u m) (i j : Int) (g : Int) (hg : loI t m i j = g) (w : World) (hb : Below W.heap.size W w) :
    Calls Tryd.prog 88 #[v, u, .int .i64 i, .int .i64 j] w (Back (.int .i64 g) W) := by
  go_enter Tryd.func88, Tryd.ntmps88
  go_wp2_with fail
  refine (iBound_is W t _ hv m _ hu i j (-1) (.inr rfl) g (by rw [if_neg (by omega)]; exact hg) w hb).mono ?_
  rintro e w1 ⟨rfl, b1⟩
  go_wp2
  go_ret
  exact ⟨rfl, b1⟩
end Go.Proofs.YtobgceebolmfcaaDoor
namespace Go.Proofs.YtobgceebolmfcaaDoor
open Go.RowKit
/-- Is the cell told: 1 or 0. -/
noncomputable def tC (t : Tb) (m : Mk) (k l : Nat) : Int := if toldB t m k l = true then 1 else 0
theorem tC_bd (t : Tb) (m : Mk) (k l : Nat) : 0 ≤ tC t m k l ∧ tC t m k l ≤ 1 := by unfold tC; split <;> omega
theorem tC_row (t : Tb) (m : Mk) (k n : Nat) : 0 ≤ sm n (tC t m k) ∧ sm n (tC t m k) ≤ n := by
  refine ⟨sm_pos fun l _ => (tC_bd t m k l).1, ?_⟩
  have := sm_le_mul (n := n) (f := tC t m k) (c := 1) fun l _ => (tC_bd t m k l).2
  omega
theorem tC_all (t : Tb) (m : Mk) (k n : Nat) : 0 ≤ sm k (fun a => sm n (tC t m a)) ∧ sm k (fun a => sm n (tC t m a)) ≤ k * n := by
  exact ⟨sm_pos fun a _ => (tC_row t m a n).1, sm_le_mul fun a _ => (tC_row t m a n).2⟩
theorem toldN_yes {t : Tb} {m : Mk} (h : mkOk t m = true) : toldN t m = sm t.length (fun a => sm (wd t) (tC t m a)) := by unfold toldN; rw [if_pos h]; rfl
theorem toldN_no {t : Tb} {m : Mk} (h : mkOk t m = false) : toldN t m = -1 := by unfold toldN; rw [h]; rfl
end Go.Proofs.YtobgceebolmfcaaDoor
namespace Go.Proofs.YtobgceebolmfcaaDoor
open Go.RowKit Go.Shelf
attribute [local go_sem] Oper.semAt_some
/-- The told cells among those that have come. -/
noncomputable def tP (t : Tb) (m : Mk) {q d : Nat} (pre : List (Pc q d)) : Int := (pre.map fun x => tC t m x.1.val x.2.val).sum
theorem sm_fin {n : Nat} (f : Nat → Int) : ((List.finRange n).map fun i => f i.val).sum = sm n f := by
  rw [← sm_list, List.length_map, List.length_finRange]
  refine sm_congr fun i hi => ?_
  rw [getD_of _ _ (by simpa using hi)]; simp
theorem tP_all (t : Tb) (m : Mk) (q d : Nat) : tP t m (plc q d) = sm q (fun a => sm d (tC t m a)) := by
  unfold tP
  rw [plc_sum, ← sm_fin]
  congr 1
  refine List.map_congr_left fun a _ => ?_
  exact sm_fin (tC t m a.val)
theorem tP_bd (t : Tb) (m : Mk) {q d : Nat} : ∀ pre : List (Pc q d), 0 ≤ tP t m pre ∧ tP t m pre ≤ pre.length
  | [] => by simp [tP]
  | x :: pre => by
    have h1 := tP_bd t m pre
    have h2 := tC_bd t m x.1.val x.2.val
    unfold tP at h1 ⊢
    simp only [List.map_cons, List.sum_cons, List.length_cons]
    omega
end Go.Proofs.YtobgceebolmfcaaDoor
