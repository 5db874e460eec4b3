/- Contracts of the program: the search for a ring. -/
import Derived.Test.YtpajbgkgleeifaaIVA
import Derived.Deep.LoopGhost
namespace Go.Proofs.Ytpajbgkgleeifaa
open Go.RowKit Go.Shelf
theorem can_bd {x : Tb} {q d : Nat} (hx : ∀ k l, k < q → l < d → 0 ≤ cF x k l ∧ cF x k l ≤ 396) : Pos q d (cF x) := fun k l hk hl => (hx k l hk hl).1
theorem Dne.mono {q d : Nat} {h : Nat → Nat → Bool} {x : Tf} {i : Nat} {s0 : Int} {sn sn' : Nat → Nat → Bool} {n : Nd} (hd : Dne q d h x i s0 sn n) (hm : ∀ k c, k < q → c < d → sn k c = true → sn' k c = true) : Dne q d h x i s0 sn' n :=
  ⟨hd.1, fun k c hk hc ho hh h0 => hm k c hk hc (hd.2 k c hk hc ho hh h0)⟩
theorem no_ring {q d : Nat} {h : Nat → Nat → Bool} {x : Tf} {i j : Nat} {s0 : Int} (hx : Pos q d x) (hi : i < q) (hj : j < d) (hg : (h i j && decide (0 ≤ x i j + s0)) = false) : (s0 = 1 → ∀ z, FitF q d h x z → z i j ≤ x i j) ∧ (s0 = -1 → ∀ z, FitF q d h x z → x i j ≤ z i j) := by
  have h0 := hx i j hi hj
  cases hh : h i j
  · exact ⟨fun _ z hz => by rw [hz.off i j hi hj hh]; omega, fun _ z hz => by rw [hz.off i j hi hj hh]; omega⟩
  · rw [hh, Bool.true_and, decide_eq_false_iff_not] at hg
    exact ⟨fun e z hz => by omega, fun e z hz => by have := hz.pos i j hi hj; omega⟩
set_option maxRecDepth 100000 in
set_option maxHeartbeats 8000000 in
theorem iRing_is (W : World) (x : Tb) (v : Value) (hv : IsR W v x) (m : Mk) (u : Value) (hu : IsM W u m) (q d : Nat) (hS : Shp x m q d) (hx : ∀ k l, k < q → l < d → 0 ≤ cF x k l ∧ cF x k l ≤ 396) (i j : Nat) (hi : i < q) (hj : j < d) (s0 : Int) (hs : s0 = 1 ∨ s0 = -1) (w : World) (hb : Below W.heap.size W w) :
    Calls Try.prog 63 #[fitV q d v u, plV i j, .int .i64 s0] w (OutRing w q d (hF m) (cF x) i j s0) := by
  have HV := Lib.hid hv
  have HU := Lib.hid hu
  have HSH := Lib.hid hS
  have HX := Lib.hid hx
  have HB := Lib.hid hb
  have HS := Lib.hid hs
  have HPOS := Lib.hid (can_bd hx)
  have hq4 : q ≤ 4 := hS.q4
  have hd4 : d ≤ 4 := hS.d4
  obtain ⟨W2, hW, hb2, hz2, hf⟩ := two_fit w #[.int .i64 q, .int .i64 d, v, u] #[.int .i64 i, .int .i64 j] TF TPl
  have HW := Lib.hid hW.symm
  have HZ2 := Lib.hid hz2
  have HF := Lib.hid hf
  have HB2 := Lib.hid (hb.trans (hb2.mono hb.size))
  obtain ⟨Av, cv, hvv, _, _, _⟩ := id hv
  obtain ⟨Au, cu, huu, _, _, _⟩ := id hu
  rw [hS.tl] at hvv
  rw [hS.ml] at huu
  subst hvv huu
  obtain ⟨g, hg⟩ : ∃ g, (hF m i j && decide (0 ≤ cF x i j + s0)) = g := ⟨_, rfl⟩
  have HG := Lib.hid hg
  clear hv hu hS hx hb hs hW hb2 hz2 hf hg
  go_enter Try.func63, Try.ntmps63
  go_wp2_with fail
  rw [HW.out]
  refine (iCan_is W2 x _ (HV.out.below HB2.out) m _ (HU.out.below HB2.out) q d HSH.out i j hi hj s0 HS.out (HX.out i j hi hj) g HG.out W2 (Below.refl _ _)).mono ?_
  rintro e w1 ⟨rfl, h1⟩
  obtain ⟨f1, f2, f3⟩ := HF.out w1 h1
  have HF3 := Lib.hid f3
  cases g
  · clear f1 f2 f3 h1
    go_wp2
    refine bodyPost_ret (results_tmp2 rfl _ _ _) rfl ?_
    exact ⟨HF3.out, .inl ⟨rfl, no_ring HPOS.out hi hj HG.out⟩⟩
  have HINS := Lib.hid (show Ins q d (hF m) (cF x) ⟨i, j, s0⟩ by
    have := HG.out
    rw [Bool.and_eq_true, decide_eq_true_eq] at this
    exact ⟨hi, hj, this.1, this.2, HS.out⟩)
  obtain ⟨p0, p1, _, _⟩ := blkF f1
  have HF1 := Lib.hid h1
  clear f1 f2 f3 h1
  go_wp2_with fail
  refine (iNewM_any q d hq4 hd4 w1).mono ?_
  rintro e w2 ⟨g2, c2, rfl, hm2, hb2⟩
  obtain ⟨B, hBB⟩ : ∃ B, w1.heap.size = B := ⟨_, rfl⟩
  obtain ⟨T, hTT⟩ : ∃ T, w2.heap.size = T := ⟨_, rfl⟩
  have hwB : w.heap.size + 2 ≤ B := by have := HZ2.out; have := HF1.out.size; omega
  have hBT : B ≤ T := by have := hb2.size; omega
  rw [hBB] at hm2
  rw [hTT] at hm2
  have HM2 := Lib.hid hm2
  have HBW2 := Lib.hid (HF1.out.trans (hb2.mono HF1.out.size))
  have HTT := Lib.hid hTT
  have HBB := Lib.hid hBB
  clear p0 p1 hm2 hb2 hTT hBB
  obtain ⟨w3, hw3, b3, hz3, k3⟩ := one_blk w2 #[.int .i64 q, .int .i64 d, .slice (some ⟨g2, 0, none⟩) q c2] TGB
  rw [HTT.out] at hz3 k3
  have HW3 := Lib.hid hw3.symm
  have HK3 := Lib.hid k3
  have HB3 := Lib.hid (HBW2.out.trans (b3.mono HBW2.out.size))
  have HM3 := Lib.hid (HM2.out.below b3)
  have HZ3 := Lib.hid hz3
  obtain ⟨f1, f2, f3⟩ := HF.out w3 HB3.out
  obtain ⟨q0, q1, _, _⟩ := blk2 f2
  obtain ⟨s0', s1', s2', _, _, _⟩ := blkG3 k3
  obtain ⟨g', c', gi, ci, hv', m0, _, hgi, _, m1, mf, hset⟩ := HM3.out.cell (i := i) (j := j) (by rw [(sq_zero q d).1]; exact hi) (by rw [(sq_zero q d).2 i hi]; exact hj)
  injection hv' with hv1 hv2 hv3
  injection hv1 with hv1
  injection hv1 with hv1 _ _
  subst hv1 hv3
  rw [(sq_zero q d).2 i hi] at m0
  have HSET := Lib.hid (hset true)
  have HGI := Lib.hid hgi
  have HFB := Lib.hid f1
  have HPB := Lib.hid f2
  have HF3' := Lib.hid f3
  have hii : (i : Int) < (q : Int) := by omega
  have hji : (j : Int) < (d : Int) := by omega
  clear hw3 b3 hz3 k3 f1 f2 f3 hset hgi hv2
  go_wp2
  rw [HW3.out, HTT.out]
  refine wp_region_still_tail 9 (by kernel_rfl) (by kernel_rfl) ?_
  simp only [List.take_succ_cons, List.take_zero, List.drop_succ_cons, List.drop_zero]
  repeat still_step
  try refine wpStill_nil ?_
  change wpList _ _ _ _ _ w3.drew
  obtain ⟨y3, hy3⟩ : ∃ y3, y3 = w3.drew := ⟨_, rfl⟩
  rw [← hy3]
  obtain ⟨w4, hw4⟩ : ∃ w4, w4 = y3.setCell ⟨gi, j, none⟩ (.bool true) := ⟨_, rfl⟩
  have c1' : y3.cell? ⟨gi, j, none⟩ = some (.bool (((List.replicate q (zerowM d)).getD i []).getD j false)) := by rw [hy3]; exact m1
  have cf' : y3.frozen? ⟨gi, j, none⟩ = false := by rw [hy3]; exact mf
  obtain ⟨sm, hsm⟩ : ∃ sm, sm = (List.replicate q (zerowM d)).set i (((List.replicate q (zerowM d)).getD i []).set j true) := ⟨_, rfl⟩
  have hsq : Sq sm q d := by rw [hsm]; exact (sq_zero q d).set hi
  have hst : Sr q d (hF m) (cF x) i j s0 [⟨T + 2, ⟨i, j, s0⟩, []⟩] (hF sm) := Sr.start (T + 2) HINS.out fun k c hk hc => by
    rw [hsm, hF_set (by simpa using hi) (by rw [(sq_zero q d).2 i hi]; exact hj), hF_zero]
    simp
  have m4 : MineB w4 B T (.slice (some ⟨g2, 0, none⟩) q c2) sm := by rw [hw4, hy3, hsm]; exact HSET.out
  have g1 := HGI.out.1
  have g2' := HGI.out.2
  have ne4 : ∀ k, k ≠ gi → w4.heap[k]? = w3.heap[k]? := fun k hk => by rw [hw4, hy3]; exact Below.heap_setCell w3.drew ⟨gi, j, none⟩ _ k hk
  have z4 : w4.heap.size = T + 1 := by rw [hw4, hy3]; simp [World.setCell]; exact HZ3.out
  have l4 : Below w.heap.size w w4 := by rw [hw4, hy3]; exact HF3'.out.drew.setCell (p := ⟨gi, j, none⟩) (by show w.heap.size ≤ gi; omega) _
  obtain ⟨w5, hw5⟩ : ∃ w5, w5 = w4.alloc (.cells #[.slice none 0 0] TQ) := ⟨_, rfl⟩
  obtain ⟨w6, hw6⟩ : ∃ w6, w6 = w5.alloc (visO ⟨i, j, s0⟩ (ptV none)) := ⟨_, rfl⟩
  have b5 : Below w4.heap.size w4 w5 := by rw [hw5]; exact (Below.refl _ _).alloc (Nat.le_refl _) _
  have b6 : Below w5.heap.size w5 w6 := by rw [hw6]; exact (Below.refl _ _).alloc (Nat.le_refl _) _
  have z5 : w5.heap.size = T + 2 := by rw [hw5]; simp; omega
  have z6 : w6.heap.size = T + 3 := by rw [hw6]; simp; omega
  have k5 : w5.heap[T + 1]? = some (.cells #[.slice none 0 0] TQ (0, 0)) := by rw [hw5, ← z4]; exact heap_alloc_new _ _
  have k6 : w6.heap[T + 2]? = some (visO ⟨i, j, s0⟩ (ptV none)) := by rw [hw6, ← z5]; exact heap_alloc_new _ _
  have b46 : Below w4.heap.size w4 w6 := b5.trans (b6.mono b5.size)
  have old : ∀ {k : Nat} {o : Obj}, k < T + 1 → k ≠ gi → w3.heap[k]? = some o → w6.heap[k]? = some o := fun h1 h2 h3 => (b46.block _ (by omega)).trans ((ne4 _ h2).trans h3)
  have HRM := Lib.hid (show RM w B T q d i j (.slice Av q cv) (.slice Au q cu) (.slice (some ⟨g2, 0, none⟩) q c2) sm (.slice none 0 0) [⟨T + 2, ⟨i, j, s0⟩, []⟩] [] w6 from
    ⟨l4.trans (b46.mono l4.size), old (by omega) (by omega) HFB.out, old (by omega) (by omega) HPB.out, old (by omega) (by omega) HK3.out, m4.below b46, ⟨(b6.block _ (by omega)).trans k5, QRow.nil _ _, by intro e; cases e⟩, fun n hn => by
      rw [List.mem_singleton.1 hn]; exact ⟨k6, Nat.le_refl _, by intro e; cases e⟩, hwB, hBT⟩)
  have HSR := Lib.hid hst
  have HSQ := Lib.hid hsq
  have r0 : w5.cell? ⟨w.heap.size + 1, 0, none⟩ = some (.int .i64 i) := (blk2 ((b5.block _ (by omega)).trans ((ne4 _ (by omega)).trans HPB.out))).1
  have r1 : w5.cell? ⟨w.heap.size + 1, 1, none⟩ = some (.int .i64 j) := (blk2 ((b5.block _ (by omega)).trans ((ne4 _ (by omega)).trans HPB.out))).2.1
  have HZ4 := Lib.hid z4
  have HZ5 := Lib.hid z5
  have HZ6 := Lib.hid z6
  have HW4 := Lib.hid hw4.symm
  have HW5 := Lib.hid hw5.symm
  have HW6 := Lib.hid (show w5.alloc (.cells #[.int .i64 i, .int .i64 j, .int .i64 s0, .pointer none] TV) = w6 from hw6.symm)
  rw [← HW5.out, ← HW4.out] at r0 r1
  have hz : y3.heap.size = T + 1 := by rw [hy3]; exact HZ3.out
  clear q0 q1 s0' s1' s2' m0 m1 mf hsm hsq hst m4 g1 g2' ne4 z4 l4 hw4 hw5 hw6 b5 b6 z5 z6 k5 k6 b46 old hy3
  go_wp2_with fail
  rw [HW4.out, HW5.out, HW6.out]
  refine (iPut_is w6 (T + 2) (T + 1) (.slice none 0 0) [] HRM.out.qu (by simp) (by rw [HZ6.out]; omega) (some (T + 2))).mono ?_
  rintro e w7 ⟨rfl, vq7, hp7⟩
  have HR7 := Lib.hid (HRM.out.sameq (pend' := [⟨T + 2, ⟨i, j, s0⟩, []⟩]) hp7)
  clear hp7 r0 r1 c1' cf' hz HRM HW4 HW5 HW6 HZ4 HZ5 HZ6 HW3 HSET HGI HFB HPB HF3' HK3 HB3 HM3 HZ3 HM2 HBW2 HTT HBB y3 w4 w5 w6
  go_wp2_with fail
  refine (iTake_is w7 (T + 2) (T + 1) vq7 [⟨T + 2, ⟨i, j, s0⟩, []⟩] HR7.out.qu (by simp)).mono ?_
  rintro e w8 (⟨h0, _⟩ | ⟨n, r, hnr, rfl, vq8, hp8⟩)
  · cases h0
  injection hnr with h1 h2
  subst h1 h2
  have HL := Lib.hid (show RL w B T q d i j (.slice Av q cv) (.slice Au q cu) (.slice (some ⟨g2, 0, none⟩) q c2) (hF m) (cF x) s0 20 (.pointer (some ⟨T + 2, 0, none⟩)) (.bool true) w8 from
    ⟨sm, vq8, [], HSQ.out, by simp, .inr ⟨⟨T + 2, ⟨i, j, s0⟩, []⟩, [], rfl, rfl, by simp, HR7.out.sameq hp8, HSR.out⟩⟩)
  clear hp8 HR7 HSR HSQ
  go_wp2
  go_loopg [10, 11] 20 (fun k last ok wr => RL w B T q d i j (.slice Av q cv) (.slice Au q cu) (.slice (some ⟨g2, 0, none⟩) q c2) (hF m) (cF x) s0 k last ok wr)
  case atStart => exact HL.out
  case round =>
    clear HL
    obtain ⟨sm, vq, don, hsq, hdn, ⟨rfl, rfl, hrm, hsr⟩ | ⟨n, pend, rfl, rfl, hk, hrm, hsr⟩⟩ := hrel
    · have HRM := Lib.hid hrm
      have HDN := Lib.hid hdn
      have HSR := Lib.hid hsr
      clear hsq hdn hrm hsr
      go_wp2
      refine bodyPost_ret (results_tmp2 rfl _ _ _) rfl ?_
      refine ⟨HRM.out.low, .inl ⟨rfl, fun e => ?_, fun e => ?_⟩⟩
      · subst e; exact HSR.out.high HDN.out hi hj HPOS.out
      · subst e; exact HSR.out.low HDN.out hi hj HPOS.out
    · have HNM := Lib.hid (show n ∈ don ++ n :: pend by simp)
      have HSQ := Lib.hid hsq
      have HRM := Lib.hid hrm
      have HSR := Lib.hid hsr
      have HDN := Lib.hid hdn
      have HK := Lib.hid hk
      obtain ⟨v0, _, v2, _⟩ := blkF (hrm.nd n HNM.out).1
      obtain ⟨q0, _, _, _⟩ := blk2 hrm.pb
      obtain ⟨p0, p1, p2, p3⟩ := blkF hrm.fb
      have hsv := (hsr.head HNM.out).1.2.2.2.2
      have HSV := Lib.hid hsv
      clear hsq hdn hrm hsr hk hsv
      by_cases e1 : n.v.s = s0
      · have hb1 : (n.v.s != s0) = false := by simp [e1]
        have hout : ¬ (n.v.s ≠ s0 ∧ n.v.r = i) := fun h => h.1 e1
        have HE1 := Lib.hid e1
        clear e1
        go_wp2
        go_quiet (fail)
        clear hb1
        have HOUT := Lib.hid hout
        clear hout
        obtain ⟨y0, hy0⟩ : ∃ y0, y0 = wr.drewN nq := ⟨_, rfl⟩
        have HR0 := Lib.hid (show RM w B T q d i j (.slice Av q cv) (.slice Au q cu) (.slice (some ⟨g2, 0, none⟩) q c2) sm vq (don ++ n :: pend) pend y0 by rw [hy0]; exact HRM.out.below (below_draws (Below.refl _ _) nq))
        rw [← hy0]
        clear hy0 p0 p1 p2 p3 v0 v2 q0 HRM
        obtain ⟨p0, p1, p2, p3⟩ := blkF HR0.out.fb
        go_wp2_with fail
        refine (iOnw_is y0 q d hq4 hd4 (.slice Av q cv) (.slice Au q cu) n.blk n.v _ (HR0.out.nd n HNM.out).1 s0).mono ?_
        rintro e w5 ⟨gp, rfl, hgp, hgp2, hpl, hb5⟩
        clear p0 p1 p2 p3
        obtain ⟨N, hN⟩ : ∃ N, onN q d s0 n.v = N := ⟨_, rfl⟩
        rw [hN] at hpl ⊢
        have hN4 : N ≤ 4 := by rw [← hN]; exact onN_le hq4 hd4 s0 n.v
        have HN := Lib.hid hN
        have HR5 := Lib.hid (HR0.out.below hb5)
        have HPL := Lib.hid hpl
        have hTg : T + 2 ≤ gp := by have := HR0.out.qu.lt; omega
        have HGQ := Lib.hid (show vq.ownBlock ≠ some gp from fun e => by have := (HR0.out.qu.row.ob gp e).2; omega)
        obtain ⟨og, hog⟩ : ∃ og, w5.heap[gp]? = some og := ⟨_, Array.getElem?_eq_getElem hgp2⟩
        have HOG := Lib.hid hog
        clear hN hgp hgp2 hpl hb5 HR0 hog
        go_wp2
        go_loopw [68] (fun a wr2 => ∃ (idx : Nat) (sm : Mk) (vq : Value) (pend : List Nd), a = .int .i64 idx ∧ idx ≤ N ∧ Sq sm q d ∧ RM w B T q d i j (.slice Av q cv) (.slice Au q cu) (.slice (some ⟨g2, 0, none⟩) q c2) sm vq (don ++ n :: pend) pend wr2 ∧ Sr q d (hF m) (cF x) i j s0 (don ++ n :: pend) (hF sm) ∧ (∀ n' ∈ don, Dne q d (hF m) (cF x) i s0 (hF sm) n') ∧ (∀ t, t < idx → hF m (onF s0 n.v t).1 (onF s0 n.v t).2 = true → 0 ≤ cF x (onF s0 n.v t).1 (onF s0 n.v t).2 + -n.v.s → hF sm (onF s0 n.v t).1 (onF s0 n.v t).2 = true) ∧ vq.ownBlock ≠ some gp ∧ wr2.heap[gp]? = some og) (fun a _ => N - (intOf a).toNat)
        case atStart => exact ⟨0, sm, vq, pend, rfl, Nat.zero_le _, HSQ.out, HR5.out, HSR.out, HDN.out, fun t ht => absurd ht (by omega), HGQ.out, HOG.out⟩
        case round =>
          clear HR5 HGQ HSQ HSR HDN HNM
          obtain ⟨idx, sm, vq, pend, rfl, hidx, hsq, hrm, hsr, hdn, hlk, hgq, hgh⟩ := hrel
          have HNM := Lib.hid (show n ∈ don ++ n :: pend by simp)
          have HSQ := Lib.hid hsq
          have HRM := Lib.hid hrm
          have HSR := Lib.hid hsr
          have HDN := Lib.hid hdn
          have HLK := Lib.hid hlk
          have HGQ := Lib.hid hgq
          have HGH := Lib.hid hgh
          have HLE := Lib.hid (show (don ++ n :: pend).length ≤ 16 from Nat.le_trans hsr.le (Nat.mul_le_mul hq4 hd4))
          clear hsq hrm hsr hdn hlk hgq hgh
          by_cases hlt : idx < N
          · have hii : (idx : Int) < (N : Int) := by omega
            obtain ⟨k, hk⟩ : ∃ k, (onF s0 n.v idx).1 = k := ⟨_, rfl⟩
            obtain ⟨c, hc⟩ : ∃ c, (onF s0 n.v idx).2 = c := ⟨_, rfl⟩
            obtain ⟨hkq, hcd, how⟩ := onF_in (q := q) (d := d) (s0 := s0) (v := n.v) (HSR.out.head HNM.out).1.1 (HSR.out.head HNM.out).1.2.1 (i := idx) (by rw [HN.out]; exact hlt)
            rw [hk] at hkq how
            rw [hc] at hcd how
            obtain ⟨l0, l1⟩ := HPL.out idx hlt
            rw [← World.cell?_of_block (w := w5) (w' := wr) (a := ⟨gp, idx * 2, none⟩) (HGH.out.trans HOG.out.symm), hk] at l0
            rw [← World.cell?_of_block (w := w5) (w' := wr) (a := ⟨gp, idx * 2 + 1, none⟩) (HGH.out.trans HOG.out.symm), hc] at l1
            have HK := Lib.hid hk
            have HC := Lib.hid hc
            have HOW := Lib.hid how
            obtain ⟨y1, hy1, b1, z1, k1⟩ := one_blk wr #[.int .i64 k, .int .i64 c] TPl
            have HY1 := Lib.hid hy1.symm
            have HR1 := Lib.hid (HRM.out.below b1)
            obtain ⟨t0, t1, _, _⟩ := blk2 k1
            obtain ⟨_, _, s2, _, _, _⟩ := blkG3 HR1.out.sb
            have HKP := Lib.hid (show ∀ X, Below y1.heap.size y1 X → X.cell? ⟨wr.heap.size, 0, none⟩ = some (.int .i64 k) ∧ X.cell? ⟨wr.heap.size, 1, none⟩ = some (.int .i64 c) from fun X h => by
              obtain ⟨a0, a1, _, _⟩ := blk2 ((h.block wr.heap.size (by omega)).trans k1)
              exact ⟨a0, a1⟩)
            have HG1 := Lib.hid (show y1.heap[gp]? = some og from (b1.block gp (Array.getElem?_eq_some_iff.1 HGH.out).1).trans HGH.out)
            obtain ⟨g', c', gi, ci, hv', m0, _, hgi, _, m1, mf, hset⟩ := HR1.out.sn.cell (i := k) (j := c) (by rw [HSQ.out.1]; exact hkq) (by rw [HSQ.out.2 k hkq]; exact hcd)
            injection hv' with hv1 hv2 hv3
            injection hv1 with hv1
            injection hv1 with hv1 _ _
            subst hv1 hv3
            rw [HSQ.out.2 k hkq] at m0
            obtain ⟨fl, hfl⟩ : ∃ fl, (sm.getD k []).getD c false = fl := ⟨_, rfl⟩
            rw [hfl] at m1
            have HFL := Lib.hid (show hF sm k c = fl from hfl)
            have hki : (k : Int) < (q : Int) := by omega
            have hci : (c : Int) < (d : Int) := by omega
            clear hk hc how hy1 b1 z1 k1 hv2 hfl hset hgi mf
            cases fl
            · obtain ⟨p0, p1, p2, p3⟩ := blkF HR1.out.fb
              obtain ⟨_, _, v2, _⟩ := blkF (HR1.out.nd n HNM.out).1
              have hsw : IntKind.i64.wrap (-n.v.s) = -n.v.s := by have := HSV.out; rw [IntKind.wrap_i64] <;> omega
              go_wp2
              rw [HY1.out]
              refine wp_region_still_tail 19 (by kernel_rfl) (by kernel_rfl) ?_
              simp only [List.take_succ_cons, List.take_zero, List.drop_succ_cons, List.drop_zero]
              iterate 19 still_step
              refine wpStill_nil ?_
              change wpList _ _ _ _ _ y1.drew
              obtain ⟨y2, hy2⟩ : ∃ y2, y2 = y1.drew := ⟨_, rfl⟩
              rw [← hy2]
              have HB12 := Lib.hid (show Below y1.heap.size y1 y2 by rw [hy2]; exact (Below.refl _ _).drew)
              have HR2 := Lib.hid (HR1.out.below HB12.out)
              have HBW := Lib.hid (HB.out.trans (HR2.out.low.mono HB.out.size))
              clear p0 p1 p2 p3 v2 m0 m1 t0 t1 s2 l0 l1 hy2
              obtain ⟨gc, hgc⟩ : ∃ gc, (hF m k c && decide (0 ≤ cF x k c + -n.v.s)) = gc := ⟨_, rfl⟩
              have HGC := Lib.hid hgc
              clear hgc
              go_wp2_with fail
              refine (iCan_is y2 x _ (HV.out.below HBW.out) m _ (HU.out.below HBW.out) q d HSH.out k c hkq hcd (-n.v.s) (by have := HSV.out; omega) (HX.out k c hkq hcd) gc HGC.out y2 (Below.refl _ _)).mono ?_
              rintro e y3 ⟨rfl, h3⟩
              have HB13 := Lib.hid (HB12.out.trans (h3.mono HB12.out.size))
              have HR3 := Lib.hid (HR2.out.below h3)
              have HG3 := Lib.hid (show y3.heap[gp]? = some og from (HB13.out.block gp (Array.getElem?_eq_some_iff.1 HG1.out).1).trans HG1.out)
              clear h3 HR2 hsw
              cases gc
              · go_wp2
                go_roundw
                case rel => exact ⟨idx + 1, sm, vq, pend, by go_num, by omega, HSQ.out, HR3.out, HSR.out, HDN.out, fun t ht hh h0 => by
                  by_cases e : t = idx
                  · have hg := HGC.out
                    rw [e, HK.out, HC.out] at hh h0
                    rw [hh, Bool.true_and, decide_eq_false_iff_not] at hg
                    exact absurd h0 hg
                  · exact HLK.out t (by omega) hh h0, HGQ.out, HG3.out⟩
                case measure => simp [intOf]; omega
              · have hgc := HGC.out
                rw [Bool.and_eq_true, decide_eq_true_eq] at hgc
                obtain ⟨hgc1, hgc2⟩ := hgc
                have HG21 := Lib.hid hgc1
                have HG22 := Lib.hid hgc2
                obtain ⟨_, _, s2, _, _, _⟩ := blkG3 HR3.out.sb
                obtain ⟨t0, t1⟩ := HKP.out y3 HB13.out
                obtain ⟨g', c', gi, ci, hv', m0, _, hgi, _, m1, mf, hset⟩ := HR3.out.sn.cell (i := k) (j := c) (by rw [HSQ.out.1]; exact hkq) (by rw [HSQ.out.2 k hkq]; exact hcd)
                injection hv' with hv1 hv2 hv3
                injection hv1 with hv1
                injection hv1 with hv1 _ _
                subst hv1 hv3
                rw [HSQ.out.2 k hkq] at m0
                obtain ⟨fl, hfl⟩ : ∃ fl, (sm.getD k []).getD c false = fl := ⟨_, rfl⟩
                rw [hfl] at m1
                have HSET := Lib.hid (hset true)
                have HGI := Lib.hid hgi
                clear hv2 hset hgi hfl hgc1 hgc2
                go_wp2
                refine wp_region_still_tail 9 (by kernel_rfl) (by kernel_rfl) ?_
                simp only [List.take_succ_cons, List.take_zero, List.drop_succ_cons, List.drop_zero]
                iterate 9 still_step
                refine wpStill_nil ?_
                change wpList _ _ _ _ _ y3.drew
                obtain ⟨y4, hy4⟩ : ∃ y4, y4 = y3.drew := ⟨_, rfl⟩
                rw [← hy4]
                have c1' : y4.cell? ⟨gi, c, none⟩ = some (.bool fl) := by rw [hy4]; exact m1
                have cf' : y4.frozen? ⟨gi, c, none⟩ = false := by rw [hy4]; exact mf
                obtain ⟨y5, hy5⟩ : ∃ y5, y5 = y4.setCell ⟨gi, c, none⟩ (.bool true) := ⟨_, rfl⟩
                have HR4 := Lib.hid (show RM w B T q d i j (.slice Av q cv) (.slice Au q cu) (.slice (some ⟨g2, 0, none⟩) q c2) sm vq (don ++ n :: pend) pend y4 by rw [hy4]; exact HR3.out.below (Below.refl _ _).drew)
                have HR5 := Lib.hid (show RM w B T q d i j (.slice Av q cv) (.slice Au q cu) (.slice (some ⟨g2, 0, none⟩) q c2) (sm.set k ((sm.getD k []).set c true)) vq (don ++ n :: pend) pend y5 by
                  rw [hy5]; exact HR4.out.mark HGI.out (by rw [hy4]; exact HSET.out))
                have ne5 : ∀ a, a ≠ gi → y5.heap[a]? = y3.heap[a]? := fun a ha => by rw [hy5, hy4]; exact Below.heap_setCell y3.drew ⟨gi, c, none⟩ _ a ha
                have hwr : T + 2 ≤ wr.heap.size := by have := HRM.out.qu.lt; omega
                have g2' := HGI.out.2
                obtain ⟨o3, ho3⟩ : ∃ o, y3.heap[wr.heap.size]? = some o := by
                  have h := t0
                  unfold World.cell? at h
                  cases e9 : y3.heap[wr.heap.size]? with
                  | none => simp [e9] at h
                  | some o => exact ⟨o, rfl⟩
                have HG5 := Lib.hid (show y5.heap[gp]? = some og from (ne5 gp (by omega)).trans HG3.out)
                have u0 : y5.cell? ⟨wr.heap.size, 0, none⟩ = some (.int .i64 k) := (World.cell?_of_block (a := ⟨wr.heap.size, 0, none⟩) (ne5 wr.heap.size (by omega))).trans t0
                have u1 : y5.cell? ⟨wr.heap.size, 1, none⟩ = some (.int .i64 c) := (World.cell?_of_block (a := ⟨wr.heap.size, 1, none⟩) (ne5 wr.heap.size (by omega))).trans t1
                obtain ⟨_, _, v2, _⟩ := blkF (HR5.out.nd n HNM.out).1
                have HY5 := Lib.hid hy5.symm
                have hsw : IntKind.i64.wrap (-n.v.s) = -n.v.s := by have := HSV.out; rw [IntKind.wrap_i64] <;> omega
                clear m0 m1 mf t0 t1 s2 hy4 ne5 g2' ho3 hy5 HR4 HSET HR3
                go_wp2
                rw [HY5.out]
                refine wp_region_still_tail 8 (by kernel_rfl) (by kernel_rfl) ?_
                simp only [List.take_succ_cons, List.take_zero, List.drop_succ_cons, List.drop_zero]
                iterate 8 still_step
                refine wpStill_nil ?_
                change wpList _ _ _ _ _ y5.drew
                obtain ⟨y6, hy6⟩ : ∃ y6, y6 = y5.drew := ⟨_, rfl⟩
                rw [← hy6]
                obtain ⟨y7, hy7⟩ : ∃ y7, y7 = y6.alloc (.cells #[.int .i64 k, .int .i64 c, .int .i64 (-n.v.s), .pointer (some ⟨n.blk, 0, none⟩)] TV) := ⟨_, rfl⟩
                have b56 : Below y5.heap.size y5 y6 := by rw [hy6]; exact (Below.refl _ _).drew
                have b67 : Below y6.heap.size y6 y7 := by rw [hy7]; exact (Below.refl _ _).alloc (Nat.le_refl _) _
                have k7 : y7.heap[y6.heap.size]? = some (visO ⟨k, c, -n.v.s⟩ (ptV (some n.blk))) := by rw [hy7]; exact heap_alloc_new _ _
                have HR6 := Lib.hid (HR5.out.below b56)
                have hT6 : T + 2 ≤ y6.heap.size := by have := HR6.out.qu.lt; omega
                obtain ⟨nw, hnw⟩ : ∃ nw : Nd, nw = ⟨y6.heap.size, ⟨k, c, -n.v.s⟩, n.chain⟩ := ⟨_, rfl⟩
                have HR7 := Lib.hid (show RM w B T q d i j (.slice Av q cv) (.slice Au q cu) (.slice (some ⟨g2, 0, none⟩) q c2) (sm.set k ((sm.getD k []).set c true)) vq ((don ++ n :: pend) ++ [nw]) pend y7 from (HR6.out.below b67).more (by rw [hnw]; exact k7) (by rw [hnw]; exact hT6) (by rw [hnw]; exact fun e => by have := (HR6.out.qu.row.ob y6.heap.size e).2; omega))
                have HG7 := Lib.hid (show y7.heap[gp]? = some og from (b67.block gp (Array.getElem?_eq_some_iff.1 ((b56.block gp (Array.getElem?_eq_some_iff.1 HG5.out).1).trans HG5.out)).1).trans ((b56.block gp (Array.getElem?_eq_some_iff.1 HG5.out).1).trans HG5.out))
                have HSR7 := Lib.hid (show Sr q d (hF m) (cF x) i j s0 ((don ++ n :: pend) ++ [nw]) (hF (sm.set k ((sm.getD k []).set c true))) by
                  rw [hnw]
                  exact HSR.out.add HNM.out y6.heap.size hkq hcd HOW.out HFL.out HG21.out HG22.out fun k' c' _ _ => hF_set (by rw [HSQ.out.1]; exact hkq) (by rw [HSQ.out.2 k hkq]; exact hcd) k' c')
                have HMO := Lib.hid (show ∀ k' c', hF sm k' c' = true → hF (sm.set k ((sm.getD k []).set c true)) k' c' = true from fun k' c' hh => by
                  rw [hF_set (by rw [HSQ.out.1]; exact hkq) (by rw [HSQ.out.2 k hkq]; exact hcd)]; split; rfl; exact hh)
                have HME := Lib.hid (show hF (sm.set k ((sm.getD k []).set c true)) k c = true by
                  rw [hF_set (by rw [HSQ.out.1]; exact hkq) (by rw [HSQ.out.2 k hkq]; exact hcd), if_pos ⟨rfl, rfl⟩])
                have HY7 := Lib.hid hy7.symm
                have HNW := Lib.hid (show nw.blk = y6.heap.size by rw [hnw])
                have hle := HLE.out
                have HPL9 := Lib.hid (show pend.length ≤ 16 by simp at hle; omega)
                have HT7 := Lib.hid (show T + 2 ≤ y7.heap.size from Nat.le_trans hT6 b67.size)
                clear hle u0 u1 v2 c1' cf' b56 b67 k7 hT6 hnw hy7 hy6 HR6 HR5 hsw
                go_wp2_with fail
                rw [HY7.out]
                refine (iPut_is y7 (T + 2) (T + 1) vq (pend.map fun n => ptV (some n.blk)) HR7.out.qu (by rw [List.length_map]; have := HPL9.out; omega) HT7.out (some y6.heap.size)).mono ?_
                rintro e y8 ⟨rfl, vq8, hp8⟩
                have HP8 := Lib.hid hp8
                have HR8 := Lib.hid (HR7.out.sameq (pend' := pend ++ [nw]) (by rw [List.map_append]; show QPut y7 y8 (T + 2) (T + 1) vq vq8 (_ ++ [ptV (some nw.blk)]); rw [HNW.out]; exact hp8))
                clear hp8 HR7
                go_wp2
                go_roundw
                case rel =>
                  have eL : (don ++ n :: pend) ++ [nw] = don ++ n :: (pend ++ [nw]) := by simp
                  have h8 := HR8.out
                  have s8 := HSR7.out
                  rw [eL] at h8 s8
                  exact ⟨idx + 1, _, vq8, pend ++ [nw], by go_num, by omega, HSQ.out.set hkq, h8, s8, fun n' hn' => (HDN.out n' hn').mono fun k' c' _ _ hh => HMO.out k' c' hh, fun t ht hh h0 => by
                    by_cases e : t = idx
                    · rw [e, HK.out, HC.out]; exact HME.out
                    · exact HMO.out _ _ (HLK.out t (by omega) hh h0), (fun e => by
                      rcases HP8.out.own with h | h
                      · rw [h] at e; exact HGQ.out e
                      · have := h gp e; have := (Array.getElem?_eq_some_iff.1 HG7.out).1; omega), (HP8.out.block gp (Array.getElem?_eq_some_iff.1 HG7.out).1 (by omega) HGQ.out).trans HG7.out⟩
                case measure => simp [intOf]; omega
            · go_wp2
              rw [HY1.out]
              go_quiet (fail)
              go_wp2
              go_roundw
              case rel => exact ⟨idx + 1, sm, vq, pend, by go_num, by omega, HSQ.out, HR1.out.below (below_draws (Below.refl _ _) nq), HSR.out, HDN.out, fun t ht hh h0 => by
                by_cases e : t = idx
                · rw [e, HK.out, HC.out]; exact HFL.out
                · exact HLK.out t (by omega) hh h0, HGQ.out, HG1.out⟩
              case measure => simp [intOf]; omega
          · obtain rfl : idx = N := by omega
            have HDX := Lib.hid (show ∀ n' ∈ don ++ [n], Dne q d (hF m) (cF x) i s0 (hF sm) n' from fun n' hn' => by
              rcases List.mem_append.1 hn' with h | h
              · exact HDN.out n' h
              · rw [List.mem_singleton.1 h]
                refine ⟨HOUT.out, fun k c hk hc ho hh h0 => ?_⟩
                obtain ⟨t, ht, e⟩ := onF_on (q := q) (d := d) hk hc ho
                have h9 := HLK.out t (by rw [← HN.out]; exact ht)
                rw [e] at h9
                exact h9 hh h0)
            have eL : don ++ n :: pend = (don ++ [n]) ++ pend := by simp
            have h8 := HRM.out
            have s8 := HSR.out
            have hle := HLE.out
            rw [eL] at h8 s8
            have HR8 := Lib.hid h8
            have HS8 := Lib.hid s8
            have HPL9 := Lib.hid (show pend.length ≤ 16 by simp at hle; omega)
            have HDL := Lib.hid (show don.length ≤ 15 by simp at hle; omega)
            have hii : ¬ (idx : Int) < (idx : Int) := by omega
            clear eL h8 s8 hle
            go_wp2_with fail
            refine (iTake_is wr (T + 2) (T + 1) vq pend HR8.out.qu (by have := HPL9.out; omega)).mono ?_
            rintro e w8 (⟨rfl, rfl, rfl⟩ | ⟨n', r, rfl, rfl, vq8, hp8⟩)
            · have HL := Lib.hid (show RL w B T q d i j (.slice Av q cv) (.slice Au q cu) (.slice (some ⟨g2, 0, none⟩) q c2) (hF m) (cF x) s0 (gk - 1) (.pointer none) (.bool false) w8 from
                ⟨sm, vq, don ++ [n], HSQ.out, HDX.out, .inl ⟨rfl, rfl, by have h := HR8.out; rw [List.append_nil] at h; exact h, by have h := HS8.out; rw [List.append_nil] at h; exact h⟩⟩)
              clear HR8 HS8 HRM HSR HPL9
              go_wp2
              go_roundg (gk - 1)
              case measure => have := HK.out; have := HDL.out; omega
              case rel => exact HL.out
            · have HL := Lib.hid (show RL w B T q d i j (.slice Av q cv) (.slice Au q cu) (.slice (some ⟨g2, 0, none⟩) q c2) (hF m) (cF x) s0 (gk - 1) (.pointer (some ⟨n'.blk, 0, none⟩)) (.bool true) w8 from
                ⟨sm, vq8, don ++ [n], HSQ.out, HDX.out, .inr ⟨n', r, rfl, rfl, by have := HK.out; have := HDL.out; simp; omega, HR8.out.sameq hp8, HS8.out⟩⟩)
              clear hp8 HR8 HS8 HRM HSR HPL9
              go_wp2
              go_roundg (gk - 1)
              case measure => have := HK.out; have := HDL.out; omega
              case rel => exact HL.out
      · have hb1 : (n.v.s != s0) = true := by rw [bne_iff_ne]; exact e1
        by_cases e2 : n.v.r = i
        · have hb2 : ((n.v.r : Int) == (i : Int)) = true := by simp [e2]
          have HE1 := Lib.hid e1
          have HE2 := Lib.hid e2
          clear e1 e2
          go_wp2
          go_quiet (fail)
          go_wp2
          refine bodyPost_ret (results_tmp2 rfl _ _ _) rfl ?_
          obtain ⟨c1, c2'⟩ := HRM.out.chain (fun n' hn' => by
            rcases HSR.out.par n' hn' with h | h
            · exact .inl h.1
            · exact .inr h) _ n HNM.out (Nat.le_refl _)
          have hTw := HRM.out.hT
          have hBw := HRM.out.hB
          exact ⟨below_draws HRM.out.low nq, .inr ⟨n.blk, n.chain, rfl, c1.same fun _ _ => rfl, fun p hp => by have := c2' p hp; omega, HSR.out.ring HNM.out HE1.out HE2.out⟩⟩
        · have hb2 : ((n.v.r : Int) == (i : Int)) = false := by rw [beq_eq_false_iff_ne]; omega
          have hout : ¬ (n.v.s ≠ s0 ∧ n.v.r = i) := fun h => e2 h.2
          clear e1 e2
          go_wp2
          go_quiet (fail)
          clear hb1 hb2
          have HOUT := Lib.hid hout
          clear hout
          obtain ⟨y0, hy0⟩ : ∃ y0, y0 = wr.drewN nq := ⟨_, rfl⟩
          have HR0 := Lib.hid (show RM w B T q d i j (.slice Av q cv) (.slice Au q cu) (.slice (some ⟨g2, 0, none⟩) q c2) sm vq (don ++ n :: pend) pend y0 by rw [hy0]; exact HRM.out.below (below_draws (Below.refl _ _) nq))
          rw [← hy0]
          clear hy0 p0 p1 p2 p3 v0 v2 q0 HRM
          obtain ⟨p0, p1, p2, p3⟩ := blkF HR0.out.fb
          go_wp2_with fail
          refine (iOnw_is y0 q d hq4 hd4 (.slice Av q cv) (.slice Au q cu) n.blk n.v _ (HR0.out.nd n HNM.out).1 s0).mono ?_
          rintro e w5 ⟨gp, rfl, hgp, hgp2, hpl, hb5⟩
          clear p0 p1 p2 p3
          obtain ⟨N, hN⟩ : ∃ N, onN q d s0 n.v = N := ⟨_, rfl⟩
          rw [hN] at hpl ⊢
          have hN4 : N ≤ 4 := by rw [← hN]; exact onN_le hq4 hd4 s0 n.v
          have HN := Lib.hid hN
          have HR5 := Lib.hid (HR0.out.below hb5)
          have HPL := Lib.hid hpl
          have hTg : T + 2 ≤ gp := by have := HR0.out.qu.lt; omega
          have HGQ := Lib.hid (show vq.ownBlock ≠ some gp from fun e => by have := (HR0.out.qu.row.ob gp e).2; omega)
          obtain ⟨og, hog⟩ : ∃ og, w5.heap[gp]? = some og := ⟨_, Array.getElem?_eq_getElem hgp2⟩
          have HOG := Lib.hid hog
          clear hN hgp hgp2 hpl hb5 HR0 hog
          go_wp2
          go_loopw [68] (fun a wr2 => ∃ (idx : Nat) (sm : Mk) (vq : Value) (pend : List Nd), a = .int .i64 idx ∧ idx ≤ N ∧ Sq sm q d ∧ RM w B T q d i j (.slice Av q cv) (.slice Au q cu) (.slice (some ⟨g2, 0, none⟩) q c2) sm vq (don ++ n :: pend) pend wr2 ∧ Sr q d (hF m) (cF x) i j s0 (don ++ n :: pend) (hF sm) ∧ (∀ n' ∈ don, Dne q d (hF m) (cF x) i s0 (hF sm) n') ∧ (∀ t, t < idx → hF m (onF s0 n.v t).1 (onF s0 n.v t).2 = true → 0 ≤ cF x (onF s0 n.v t).1 (onF s0 n.v t).2 + -n.v.s → hF sm (onF s0 n.v t).1 (onF s0 n.v t).2 = true) ∧ vq.ownBlock ≠ some gp ∧ wr2.heap[gp]? = some og) (fun a _ => N - (intOf a).toNat)
          case atStart => exact ⟨0, sm, vq, pend, rfl, Nat.zero_le _, HSQ.out, HR5.out, HSR.out, HDN.out, fun t ht => absurd ht (by omega), HGQ.out, HOG.out⟩
          case round =>
            clear HR5 HGQ HSQ HSR HDN HNM
            obtain ⟨idx, sm, vq, pend, rfl, hidx, hsq, hrm, hsr, hdn, hlk, hgq, hgh⟩ := hrel
            have HNM := Lib.hid (show n ∈ don ++ n :: pend by simp)
            have HSQ := Lib.hid hsq
            have HRM := Lib.hid hrm
            have HSR := Lib.hid hsr
            have HDN := Lib.hid hdn
            have HLK := Lib.hid hlk
            have HGQ := Lib.hid hgq
            have HGH := Lib.hid hgh
            have HLE := Lib.hid (show (don ++ n :: pend).length ≤ 16 from Nat.le_trans hsr.le (Nat.mul_le_mul hq4 hd4))
            clear hsq hrm hsr hdn hlk hgq hgh
            by_cases hlt : idx < N
            · have hii : (idx : Int) < (N : Int) := by omega
              obtain ⟨k, hk⟩ : ∃ k, (onF s0 n.v idx).1 = k := ⟨_, rfl⟩
              obtain ⟨c, hc⟩ : ∃ c, (onF s0 n.v idx).2 = c := ⟨_, rfl⟩
              obtain ⟨hkq, hcd, how⟩ := onF_in (q := q) (d := d) (s0 := s0) (v := n.v) (HSR.out.head HNM.out).1.1 (HSR.out.head HNM.out).1.2.1 (i := idx) (by rw [HN.out]; exact hlt)
              rw [hk] at hkq how
              rw [hc] at hcd how
              obtain ⟨l0, l1⟩ := HPL.out idx hlt
              rw [← World.cell?_of_block (w := w5) (w' := wr) (a := ⟨gp, idx * 2, none⟩) (HGH.out.trans HOG.out.symm), hk] at l0
              rw [← World.cell?_of_block (w := w5) (w' := wr) (a := ⟨gp, idx * 2 + 1, none⟩) (HGH.out.trans HOG.out.symm), hc] at l1
              have HK := Lib.hid hk
              have HC := Lib.hid hc
              have HOW := Lib.hid how
              obtain ⟨y1, hy1, b1, z1, k1⟩ := one_blk wr #[.int .i64 k, .int .i64 c] TPl
              have HY1 := Lib.hid hy1.symm
              have HR1 := Lib.hid (HRM.out.below b1)
              obtain ⟨t0, t1, _, _⟩ := blk2 k1
              obtain ⟨_, _, s2, _, _, _⟩ := blkG3 HR1.out.sb
              have HKP := Lib.hid (show ∀ X, Below y1.heap.size y1 X → X.cell? ⟨wr.heap.size, 0, none⟩ = some (.int .i64 k) ∧ X.cell? ⟨wr.heap.size, 1, none⟩ = some (.int .i64 c) from fun X h => by
                obtain ⟨a0, a1, _, _⟩ := blk2 ((h.block wr.heap.size (by omega)).trans k1)
                exact ⟨a0, a1⟩)
              have HG1 := Lib.hid (show y1.heap[gp]? = some og from (b1.block gp (Array.getElem?_eq_some_iff.1 HGH.out).1).trans HGH.out)
              obtain ⟨g', c', gi, ci, hv', m0, _, hgi, _, m1, mf, hset⟩ := HR1.out.sn.cell (i := k) (j := c) (by rw [HSQ.out.1]; exact hkq) (by rw [HSQ.out.2 k hkq]; exact hcd)
              injection hv' with hv1 hv2 hv3
              injection hv1 with hv1
              injection hv1 with hv1 _ _
              subst hv1 hv3
              rw [HSQ.out.2 k hkq] at m0
              obtain ⟨fl, hfl⟩ : ∃ fl, (sm.getD k []).getD c false = fl := ⟨_, rfl⟩
              rw [hfl] at m1
              have HFL := Lib.hid (show hF sm k c = fl from hfl)
              have hki : (k : Int) < (q : Int) := by omega
              have hci : (c : Int) < (d : Int) := by omega
              clear hk hc how hy1 b1 z1 k1 hv2 hfl hset hgi mf
              cases fl
              · obtain ⟨p0, p1, p2, p3⟩ := blkF HR1.out.fb
                obtain ⟨_, _, v2, _⟩ := blkF (HR1.out.nd n HNM.out).1
                have hsw : IntKind.i64.wrap (-n.v.s) = -n.v.s := by have := HSV.out; rw [IntKind.wrap_i64] <;> omega
                go_wp2
                rw [HY1.out]
                refine wp_region_still_tail 19 (by kernel_rfl) (by kernel_rfl) ?_
                simp only [List.take_succ_cons, List.take_zero, List.drop_succ_cons, List.drop_zero]
                iterate 19 still_step
                refine wpStill_nil ?_
                change wpList _ _ _ _ _ y1.drew
                obtain ⟨y2, hy2⟩ : ∃ y2, y2 = y1.drew := ⟨_, rfl⟩
                rw [← hy2]
                have HB12 := Lib.hid (show Below y1.heap.size y1 y2 by rw [hy2]; exact (Below.refl _ _).drew)
                have HR2 := Lib.hid (HR1.out.below HB12.out)
                have HBW := Lib.hid (HB.out.trans (HR2.out.low.mono HB.out.size))
                clear p0 p1 p2 p3 v2 m0 m1 t0 t1 s2 l0 l1 hy2
                obtain ⟨gc, hgc⟩ : ∃ gc, (hF m k c && decide (0 ≤ cF x k c + -n.v.s)) = gc := ⟨_, rfl⟩
                have HGC := Lib.hid hgc
                clear hgc
                go_wp2_with fail
                refine (iCan_is y2 x _ (HV.out.below HBW.out) m _ (HU.out.below HBW.out) q d HSH.out k c hkq hcd (-n.v.s) (by have := HSV.out; omega) (HX.out k c hkq hcd) gc HGC.out y2 (Below.refl _ _)).mono ?_
                rintro e y3 ⟨rfl, h3⟩
                have HB13 := Lib.hid (HB12.out.trans (h3.mono HB12.out.size))
                have HR3 := Lib.hid (HR2.out.below h3)
                have HG3 := Lib.hid (show y3.heap[gp]? = some og from (HB13.out.block gp (Array.getElem?_eq_some_iff.1 HG1.out).1).trans HG1.out)
                clear h3 HR2 hsw
                cases gc
                · go_wp2
                  go_roundw
                  case rel => exact ⟨idx + 1, sm, vq, pend, by go_num, by omega, HSQ.out, HR3.out, HSR.out, HDN.out, fun t ht hh h0 => by
                    by_cases e : t = idx
                    · have hg := HGC.out
                      rw [e, HK.out, HC.out] at hh h0
                      rw [hh, Bool.true_and, decide_eq_false_iff_not] at hg
                      exact absurd h0 hg
                    · exact HLK.out t (by omega) hh h0, HGQ.out, HG3.out⟩
                  case measure => simp [intOf]; omega
                · have hgc := HGC.out
                  rw [Bool.and_eq_true, decide_eq_true_eq] at hgc
                  obtain ⟨hgc1, hgc2⟩ := hgc
                  have HG21 := Lib.hid hgc1
                  have HG22 := Lib.hid hgc2
                  obtain ⟨_, _, s2, _, _, _⟩ := blkG3 HR3.out.sb
                  obtain ⟨t0, t1⟩ := HKP.out y3 HB13.out
                  obtain ⟨g', c', gi, ci, hv', m0, _, hgi, _, m1, mf, hset⟩ := HR3.out.sn.cell (i := k) (j := c) (by rw [HSQ.out.1]; exact hkq) (by rw [HSQ.out.2 k hkq]; exact hcd)
                  injection hv' with hv1 hv2 hv3
                  injection hv1 with hv1
                  injection hv1 with hv1 _ _
                  subst hv1 hv3
                  rw [HSQ.out.2 k hkq] at m0
                  obtain ⟨fl, hfl⟩ : ∃ fl, (sm.getD k []).getD c false = fl := ⟨_, rfl⟩
                  rw [hfl] at m1
                  have HSET := Lib.hid (hset true)
                  have HGI := Lib.hid hgi
                  clear hv2 hset hgi hfl hgc1 hgc2
                  go_wp2
                  refine wp_region_still_tail 9 (by kernel_rfl) (by kernel_rfl) ?_
                  simp only [List.take_succ_cons, List.take_zero, List.drop_succ_cons, List.drop_zero]
                  iterate 9 still_step
                  refine wpStill_nil ?_
                  change wpList _ _ _ _ _ y3.drew
                  obtain ⟨y4, hy4⟩ : ∃ y4, y4 = y3.drew := ⟨_, rfl⟩
                  rw [← hy4]
                  have c1' : y4.cell? ⟨gi, c, none⟩ = some (.bool fl) := by rw [hy4]; exact m1
                  have cf' : y4.frozen? ⟨gi, c, none⟩ = false := by rw [hy4]; exact mf
                  obtain ⟨y5, hy5⟩ : ∃ y5, y5 = y4.setCell ⟨gi, c, none⟩ (.bool true) := ⟨_, rfl⟩
                  have HR4 := Lib.hid (show RM w B T q d i j (.slice Av q cv) (.slice Au q cu) (.slice (some ⟨g2, 0, none⟩) q c2) sm vq (don ++ n :: pend) pend y4 by rw [hy4]; exact HR3.out.below (Below.refl _ _).drew)
                  have HR5 := Lib.hid (show RM w B T q d i j (.slice Av q cv) (.slice Au q cu) (.slice (some ⟨g2, 0, none⟩) q c2) (sm.set k ((sm.getD k []).set c true)) vq (don ++ n :: pend) pend y5 by
                    rw [hy5]; exact HR4.out.mark HGI.out (by rw [hy4]; exact HSET.out))
                  have ne5 : ∀ a, a ≠ gi → y5.heap[a]? = y3.heap[a]? := fun a ha => by rw [hy5, hy4]; exact Below.heap_setCell y3.drew ⟨gi, c, none⟩ _ a ha
                  have hwr : T + 2 ≤ wr.heap.size := by have := HRM.out.qu.lt; omega
                  have g2' := HGI.out.2
                  obtain ⟨o3, ho3⟩ : ∃ o, y3.heap[wr.heap.size]? = some o := by
                    have h := t0
                    unfold World.cell? at h
                    cases e9 : y3.heap[wr.heap.size]? with
                    | none => simp [e9] at h
                    | some o => exact ⟨o, rfl⟩
                  have HG5 := Lib.hid (show y5.heap[gp]? = some og from (ne5 gp (by omega)).trans HG3.out)
                  have u0 : y5.cell? ⟨wr.heap.size, 0, none⟩ = some (.int .i64 k) := (World.cell?_of_block (a := ⟨wr.heap.size, 0, none⟩) (ne5 wr.heap.size (by omega))).trans t0
                  have u1 : y5.cell? ⟨wr.heap.size, 1, none⟩ = some (.int .i64 c) := (World.cell?_of_block (a := ⟨wr.heap.size, 1, none⟩) (ne5 wr.heap.size (by omega))).trans t1
                  obtain ⟨_, _, v2, _⟩ := blkF (HR5.out.nd n HNM.out).1
                  have HY5 := Lib.hid hy5.symm
                  have hsw : IntKind.i64.wrap (-n.v.s) = -n.v.s := by have := HSV.out; rw [IntKind.wrap_i64] <;> omega
                  clear m0 m1 mf t0 t1 s2 hy4 ne5 g2' ho3 hy5 HR4 HSET HR3
                  go_wp2
                  rw [HY5.out]
                  refine wp_region_still_tail 8 (by kernel_rfl) (by kernel_rfl) ?_
                  simp only [List.take_succ_cons, List.take_zero, List.drop_succ_cons, List.drop_zero]
                  iterate 8 still_step
                  refine wpStill_nil ?_
                  change wpList _ _ _ _ _ y5.drew
                  obtain ⟨y6, hy6⟩ : ∃ y6, y6 = y5.drew := ⟨_, rfl⟩
                  rw [← hy6]
                  obtain ⟨y7, hy7⟩ : ∃ y7, y7 = y6.alloc (.cells #[.int .i64 k, .int .i64 c, .int .i64 (-n.v.s), .pointer (some ⟨n.blk, 0, none⟩)] TV) := ⟨_, rfl⟩
                  have b56 : Below y5.heap.size y5 y6 := by rw [hy6]; exact (Below.refl _ _).drew
                  have b67 : Below y6.heap.size y6 y7 := by rw [hy7]; exact (Below.refl _ _).alloc (Nat.le_refl _) _
                  have k7 : y7.heap[y6.heap.size]? = some (visO ⟨k, c, -n.v.s⟩ (ptV (some n.blk))) := by rw [hy7]; exact heap_alloc_new _ _
                  have HR6 := Lib.hid (HR5.out.below b56)
                  have hT6 : T + 2 ≤ y6.heap.size := by have := HR6.out.qu.lt; omega
                  obtain ⟨nw, hnw⟩ : ∃ nw : Nd, nw = ⟨y6.heap.size, ⟨k, c, -n.v.s⟩, n.chain⟩ := ⟨_, rfl⟩
                  have HR7 := Lib.hid (show RM w B T q d i j (.slice Av q cv) (.slice Au q cu) (.slice (some ⟨g2, 0, none⟩) q c2) (sm.set k ((sm.getD k []).set c true)) vq ((don ++ n :: pend) ++ [nw]) pend y7 from (HR6.out.below b67).more (by rw [hnw]; exact k7) (by rw [hnw]; exact hT6) (by rw [hnw]; exact fun e => by have := (HR6.out.qu.row.ob y6.heap.size e).2; omega))
                  have HG7 := Lib.hid (show y7.heap[gp]? = some og from (b67.block gp (Array.getElem?_eq_some_iff.1 ((b56.block gp (Array.getElem?_eq_some_iff.1 HG5.out).1).trans HG5.out)).1).trans ((b56.block gp (Array.getElem?_eq_some_iff.1 HG5.out).1).trans HG5.out))
                  have HSR7 := Lib.hid (show Sr q d (hF m) (cF x) i j s0 ((don ++ n :: pend) ++ [nw]) (hF (sm.set k ((sm.getD k []).set c true))) by
                    rw [hnw]
                    exact HSR.out.add HNM.out y6.heap.size hkq hcd HOW.out HFL.out HG21.out HG22.out fun k' c' _ _ => hF_set (by rw [HSQ.out.1]; exact hkq) (by rw [HSQ.out.2 k hkq]; exact hcd) k' c')
                  have HMO := Lib.hid (show ∀ k' c', hF sm k' c' = true → hF (sm.set k ((sm.getD k []).set c true)) k' c' = true from fun k' c' hh => by
                    rw [hF_set (by rw [HSQ.out.1]; exact hkq) (by rw [HSQ.out.2 k hkq]; exact hcd)]; split; rfl; exact hh)
                  have HME := Lib.hid (show hF (sm.set k ((sm.getD k []).set c true)) k c = true by
                    rw [hF_set (by rw [HSQ.out.1]; exact hkq) (by rw [HSQ.out.2 k hkq]; exact hcd), if_pos ⟨rfl, rfl⟩])
                  have HY7 := Lib.hid hy7.symm
                  have HNW := Lib.hid (show nw.blk = y6.heap.size by rw [hnw])
                  have hle := HLE.out
                  have HPL9 := Lib.hid (show pend.length ≤ 16 by simp at hle; omega)
                  have HT7 := Lib.hid (show T + 2 ≤ y7.heap.size from Nat.le_trans hT6 b67.size)
                  clear hle u0 u1 v2 c1' cf' b56 b67 k7 hT6 hnw hy7 hy6 HR6 HR5 hsw
                  go_wp2_with fail
                  rw [HY7.out]
                  refine (iPut_is y7 (T + 2) (T + 1) vq (pend.map fun n => ptV (some n.blk)) HR7.out.qu (by rw [List.length_map]; have := HPL9.out; omega) HT7.out (some y6.heap.size)).mono ?_
                  rintro e y8 ⟨rfl, vq8, hp8⟩
                  have HP8 := Lib.hid hp8
                  have HR8 := Lib.hid (HR7.out.sameq (pend' := pend ++ [nw]) (by rw [List.map_append]; show QPut y7 y8 (T + 2) (T + 1) vq vq8 (_ ++ [ptV (some nw.blk)]); rw [HNW.out]; exact hp8))
                  clear hp8 HR7
                  go_wp2
                  go_roundw
                  case rel =>
                    have eL : (don ++ n :: pend) ++ [nw] = don ++ n :: (pend ++ [nw]) := by simp
                    have h8 := HR8.out
                    have s8 := HSR7.out
                    rw [eL] at h8 s8
                    exact ⟨idx + 1, _, vq8, pend ++ [nw], by go_num, by omega, HSQ.out.set hkq, h8, s8, fun n' hn' => (HDN.out n' hn').mono fun k' c' _ _ hh => HMO.out k' c' hh, fun t ht hh h0 => by
                      by_cases e : t = idx
                      · rw [e, HK.out, HC.out]; exact HME.out
                      · exact HMO.out _ _ (HLK.out t (by omega) hh h0), (fun e => by
                        rcases HP8.out.own with h | h
                        · rw [h] at e; exact HGQ.out e
                        · have := h gp e; have := (Array.getElem?_eq_some_iff.1 HG7.out).1; omega), (HP8.out.block gp (Array.getElem?_eq_some_iff.1 HG7.out).1 (by omega) HGQ.out).trans HG7.out⟩
                  case measure => simp [intOf]; omega
              · go_wp2
                rw [HY1.out]
                go_quiet (fail)
                go_wp2
                go_roundw
                case rel => exact ⟨idx + 1, sm, vq, pend, by go_num, by omega, HSQ.out, HR1.out.below (below_draws (Below.refl _ _) nq), HSR.out, HDN.out, fun t ht hh h0 => by
                  by_cases e : t = idx
                  · rw [e, HK.out, HC.out]; exact HFL.out
                  · exact HLK.out t (by omega) hh h0, HGQ.out, HG1.out⟩
                case measure => simp [intOf]; omega
            · obtain rfl : idx = N := by omega
              have HDX := Lib.hid (show ∀ n' ∈ don ++ [n], Dne q d (hF m) (cF x) i s0 (hF sm) n' from fun n' hn' => by
                rcases List.mem_append.1 hn' with h | h
                · exact HDN.out n' h
                · rw [List.mem_singleton.1 h]
                  refine ⟨HOUT.out, fun k c hk hc ho hh h0 => ?_⟩
                  obtain ⟨t, ht, e⟩ := onF_on (q := q) (d := d) hk hc ho
                  have h9 := HLK.out t (by rw [← HN.out]; exact ht)
                  rw [e] at h9
                  exact h9 hh h0)
              have eL : don ++ n :: pend = (don ++ [n]) ++ pend := by simp
              have h8 := HRM.out
              have s8 := HSR.out
              have hle := HLE.out
              rw [eL] at h8 s8
              have HR8 := Lib.hid h8
              have HS8 := Lib.hid s8
              have HPL9 := Lib.hid (show pend.length ≤ 16 by simp at hle; omega)
              have HDL := Lib.hid (show don.length ≤ 15 by simp at hle; omega)
              have hii : ¬ (idx : Int) < (idx : Int) := by omega
              clear eL h8 s8 hle
              go_wp2_with fail
              refine (iTake_is wr (T + 2) (T + 1) vq pend HR8.out.qu (by have := HPL9.out; omega)).mono ?_
              rintro e w8 (⟨rfl, rfl, rfl⟩ | ⟨n', r, rfl, rfl, vq8, hp8⟩)
              · have HL := Lib.hid (show RL w B T q d i j (.slice Av q cv) (.slice Au q cu) (.slice (some ⟨g2, 0, none⟩) q c2) (hF m) (cF x) s0 (gk - 1) (.pointer none) (.bool false) w8 from
                  ⟨sm, vq, don ++ [n], HSQ.out, HDX.out, .inl ⟨rfl, rfl, by have h := HR8.out; rw [List.append_nil] at h; exact h, by have h := HS8.out; rw [List.append_nil] at h; exact h⟩⟩)
                clear HR8 HS8 HRM HSR HPL9
                go_wp2
                go_roundg (gk - 1)
                case measure => have := HK.out; have := HDL.out; omega
                case rel => exact HL.out
              · have HL := Lib.hid (show RL w B T q d i j (.slice Av q cv) (.slice Au q cu) (.slice (some ⟨g2, 0, none⟩) q c2) (hF m) (cF x) s0 (gk - 1) (.pointer (some ⟨n'.blk, 0, none⟩)) (.bool true) w8 from
                  ⟨sm, vq8, don ++ [n], HSQ.out, HDX.out, .inr ⟨n', r, rfl, rfl, by have := HK.out; have := HDL.out; simp; omega, HR8.out.sameq hp8, HS8.out⟩⟩)
                clear hp8 HR8 HS8 HRM HSR HPL9
                go_wp2
                go_roundg (gk - 1)
                case measure => have := HK.out; have := HDL.out; omega
                case rel => exact HL.out
end Go.Proofs.Ytpajbgkgleeifaa
