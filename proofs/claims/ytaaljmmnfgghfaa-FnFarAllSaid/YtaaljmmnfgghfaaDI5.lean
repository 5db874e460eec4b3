/- Contracts of the program: the bands of each group. -/
import Derived.Test.YtaaljmmnfgghfaaDI4
namespace Go.Proofs.Ytaaljmmnfgghfaa
open Go.RowKit Go.Maps
theorem fst_prs_take (x : List Pn) (n : Nat) (hn : n < x.length) : (prs (x.take (n + 1))).map Prod.fst = (prs (x.take n)).map Prod.fst ++ [key x[n]] := by
  rw [prs_take_succ x n hn, List.map_append]; rfl
set_option maxHeartbeats 2000000 in
theorem iGroups_any (x : List Pn) (q : Nat) (hq : q = x.length) (hx : okL x = true) (A : Option Addr) (c : Nat) (w : World) (hr : Row w w.heap.size A (pcells x)) :
    Calls Try.prog 40 #[.slice A q c] w fun e w' => e = .returned (.map (some w.heap.size)) ∧ GB w' w.heap.size q ((prs x).map Prod.fst) (prs x) ∧ Below w.heap.size w w' := by
  have HQ := Lib.hid hq; clear hq
  have h40 := (okL_all hx).1
  have HOK := Lib.hid (okL_mem hx)
  have hq40 : q ≤ 40 := by rw [HQ.out]; exact h40
  have HR := Lib.hid hr
  clear hr hx
  have hmm := @run_makeMap Try.prog
  go_enter Try.func40, Try.ntmps40
  go_wp2
  go_loopw [10] (fun i wr => ∃ k : Nat, k ≤ q ∧ i = .int .i64 k ∧ GB wr w.heap.size k ((prs (x.take k)).map Prod.fst) (prs (x.take k)) ∧ Below w.heap.size w wr) (fun i _ => q - (intOf i).toNat)
  case atStart => exact ⟨0, Nat.zero_le _, rfl, GB.made w, (Below.refl _ _).alloc (Nat.le_refl _) _⟩
  case round =>
    obtain ⟨k, hk, rfl, hgb, hb⟩ := hrel
    clear hmm
    by_cases hlt : k < q
    · have hki : (k : Int) < (q : Int) := by omega
      have hkx : k < x.length := by rw [← HQ.out]; exact hlt
      obtain ⟨bq, o, rfl, hbw, c0, c1, c2, c3⟩ := (HR.out.below hb (Nat.le_refl _)).at_ k hkx
      have HT := Lib.hid (prs_take_succ x k hkx)
      have HTF := Lib.hid (fst_prs_take x k hkx)
      have hok := HOK.out x[k] (List.getElem_mem hkx)
      obtain ⟨p, hp⟩ : ∃ p, x[k] = p := ⟨_, rfl⟩
      rw [hp] at c0 c1 c2 c3 HT HTF hok
      clear hp
      have HKW := Lib.hid (wk_ok hok)
      obtain ⟨i, hi, hi10, hp0, hp9⟩ := bd_nat hok
      have hz := hb.size
      have hnl := nb_len (prs (x.take k)) (key p) (i : Int)
      rw [prs_len] at hnl
      have hl := List.length_take_le k x
      obtain ⟨y, hy⟩ : ∃ y, prs (x.take k) = y := ⟨_, rfl⟩
      obtain ⟨X, hX⟩ : ∃ X, y.map Prod.fst = X := ⟨_, rfl⟩
      rw [hy] at hgb HT HTF hnl
      rw [hX] at hgb HTF
      have hn6 : nb y (key p) (i : Int) ≤ 1000000 := by omega
      clear hl hnl
      have HXY := Lib.hid hX
      have HM := Lib.hid (rowB_get y (key p) hi10)
      have HY := Lib.hid (rowB_yes y (key p, bd p) (key p) rfl hi10 hi)
      have HI := Lib.hid hi
      clear hy hX hi hok
      -- the person's box
      obtain ⟨W, hW⟩ : ∃ W, W = wr.alloc (.cells #[.int .i64 p.area, .int .i64 p.job, .int .i64 p.sex, .int .i64 p.pay] TP) := ⟨_, rfl⟩
      have HBW := Lib.hid (show Below w.heap.size w W by rw [hW]; exact hb.alloc hz _)
      have hWz : wr.heap.size < W.heap.size := by rw [hW]; simp
      have d0 : W.cell? ⟨wr.heap.size, 0, none⟩ = some (.int .i64 p.area) := by rw [hW]; simp [go_sem]
      have d1 : W.cell? ⟨wr.heap.size, 1, none⟩ = some (.int .i64 p.job) := by rw [hW]; simp [go_sem]
      have d2 : W.cell? ⟨wr.heap.size, 2, none⟩ = some (.int .i64 p.sex) := by rw [hW]; simp [go_sem]
      have d3 : W.cell? ⟨wr.heap.size, 3, none⟩ = some (.int .i64 p.pay) := by rw [hW]; simp [go_sem]
      have HGB := Lib.hid (show GB W w.heap.size k X y by rw [hW]; exact hgb.alloc _)
      have HD := Lib.hid (show ∀ w' : World, Below W.heap.size W w' → (w'.cell? ⟨wr.heap.size, 0, none⟩ = some (.int .i64 p.area) ∧ w'.cell? ⟨wr.heap.size, 1, none⟩ = some (.int .i64 p.job) ∧ w'.cell? ⟨wr.heap.size, 2, none⟩ = some (.int .i64 p.sex) ∧ w'.cell? ⟨wr.heap.size, 3, none⟩ = some (.int .i64 p.pay)) from
        fun w' h => ⟨(h.cell (p := ⟨wr.heap.size, 0, none⟩) hWz).trans d0, (h.cell (p := ⟨wr.heap.size, 1, none⟩) hWz).trans d1, (h.cell (p := ⟨wr.heap.size, 2, none⟩) hWz).trans d2, (h.cell (p := ⟨wr.heap.size, 3, none⟩) hWz).trans d3⟩)
      have hgb0 := hgb.lt
      clear hgb
      go_wp2_with fail
      rw [← hW]
      clear hW c0 c1 c2 c3
      refine (iCodes_any p W).mono ?_
      rintro e w3 ⟨rfl, h3⟩
      clear d0 d1 d2 d3
      -- the codes' box
      obtain ⟨w4, hw4⟩ : ∃ w4, w4 = w3.alloc (.cells #[.int .i64 p.area, .int .i64 p.job, .int .i64 p.sex] TK) := ⟨_, rfl⟩
      have b4 : Below W.heap.size W w4 := by rw [hw4]; exact h3.alloc h3.size _
      have hk4 : w3.heap.size < w4.heap.size := by rw [hw4]; simp
      have k0 : w4.cell? ⟨w3.heap.size, 0, none⟩ = some (.int .i64 p.area) := by rw [hw4]; simp [go_sem]
      have k1 : w4.cell? ⟨w3.heap.size, 1, none⟩ = some (.int .i64 p.job) := by rw [hw4]; simp [go_sem]
      have k2 : w4.cell? ⟨w3.heap.size, 2, none⟩ = some (.int .i64 p.sex) := by rw [hw4]; simp [go_sem]
      have g4 := HGB.out.below b4
      have hwb : wr.heap.size ≠ w.heap.size := by have := hgb0; omega
      have hwk : w3.heap.size ≠ w.heap.size := by have := h3.size; omega
      have HB4 := Lib.hid b4
      have hgl := g4.lt
      have HW4 := Lib.hid hw4
      have B4 := HBW.out.trans (b4.mono HBW.out.size)
      have HC4 := Lib.hid (HD.out _ b4)
      have HK4 := Lib.hid (And.intro k0 (And.intro k1 k2))
      have HZ4 := Lib.hid (show wr.heap.size < w4.heap.size by have := b4.size; omega)
      rw [hw4] at hgl g4
      clear hw4 k0 k1 k2 b4 h3 HB4
      by_cases hin : key p ∈ X
      · obtain ⟨B, hbB, hBB, hlk, hadd⟩ := (g4.old hin).in_ (List.mem_append.2 (.inl hin))
        have r1 : (Instr.lookup TMp (.map (some w.heap.size)) (.agg #[.int .i64 p.area, .int .i64 p.job, .int .i64 p.sex]) false).run Try.prog (w3.alloc (.cells #[.int .i64 p.area, .int .i64 p.job, .int .i64 p.sex] TK)) = .ok (.pointer (some ⟨B, 0, none⟩)) (w3.alloc (.cells #[.int .i64 p.area, .int .i64 p.job, .int .i64 p.sex] TK)) := hlk _ rfl
        have HADD := Lib.hid hadd
        have HLK := Lib.hid hlk
        have HB6 := Lib.hid B4
        have HBBB := Lib.hid (show BB w4.drew B (rowB y (key p)) by rw [HW4.out]; exact hBB)
        rw [← HW4.out] at HADD HLK
        clear hlk hadd hBB g4 B4
        go_wp2
        rw [← HW4.out]
        clear r1
        obtain ⟨e0, e1, e2, e3⟩ := HC4.out
        obtain ⟨k0, k1, k2⟩ := HK4.out
        have r2 : (Instr.lookup TMp (.map (some w.heap.size)) (.agg #[.int .i64 p.area, .int .i64 p.job, .int .i64 p.sex]) false).run Try.prog w4.drew = .ok (.pointer (some ⟨B, 0, none⟩)) w4.drew := HLK.out _ rfl
        refine wp_region_still_tail 4 (by kernel_rfl) (by kernel_rfl) ?_
        simp only [List.take_succ_cons, List.take_zero, List.drop_succ_cons, List.drop_zero]
        repeat still_step
        try refine wpStill_nil ?_
        change wpList _ _ _ _ _ w4.drew
        clear r2 e0 e1 e2 e3 k0 k1 k2
        go_wp2_with fail
        refine (iAdd_any _ B p ⟨hp0, hp9⟩ i HI.out _ HM.out hn6 w4.drew HBBB.out).mono ?_
        rintro e w7 ⟨rfl, hb7, hg7⟩
        have HB7 := Lib.hid (HB6.out.grown (undrew hg7) HB6.out.size (fun j hj => by cases hj; omega))
        have HGB7 := Lib.hid (HADD.out (bd p) w7 (undrew hg7) (by rw [HY.out]; exact hb7))
        clear hb7 hg7
        go_wp2
        go_roundw
        case rel => exact ⟨k + 1, by omega, by go_num, by rw [HTF.out, HT.out]; exact HGB7.out.mono (Nat.le_succ k), HB7.out⟩
        case measure => simp [intOf]; omega
      · have r0 : (Instr.lookup TMp (.map (some w.heap.size)) (.agg #[.int .i64 p.area, .int .i64 p.job, .int .i64 p.sex]) false).run Try.prog (w3.alloc (.cells #[.int .i64 p.area, .int .i64 p.job, .int .i64 p.sex] TK)) = .ok (.pointer none) (w3.alloc (.cells #[.int .i64 p.area, .int .i64 p.job, .int .i64 p.sex] TK)) := g4.out HKW.out hin rfl
        obtain ⟨w6, hup, hg6, hgr⟩ := g4.new HKW.out (by simp only [maxLen]; omega) hin (by rw [HXY.out]; exact hin)
        obtain ⟨B, hbB, hBB, hlk, hadd⟩ := hg6.in_ (List.mem_append.2 (.inr (List.mem_singleton.2 rfl)))
        have hze : (w3.alloc (.cells #[.int .i64 p.area, .int .i64 p.job, .int .i64 p.sex] TK)).heap.size = w3.heap.size + 1 := by simp
        have hup2 : (Instr.mapUpdate TMp (.map (some w.heap.size)) (.agg #[.int .i64 p.area, .int .i64 p.job, .int .i64 p.sex]) (.pointer (some ⟨w3.heap.size + 1, 0, none⟩))).run Try.prog ((w3.alloc (.cells #[.int .i64 p.area, .int .i64 p.job, .int .i64 p.sex] TK)).alloc (.cells #[.int .i64 0, .int .i64 0, .int .i64 0, .int .i64 0, .int .i64 0, .int .i64 0, .int .i64 0, .int .i64 0, .int .i64 0, .int .i64 0] TBc)) = .ok () w6 := by rw [← hze]; exact hup
        rw [← HW4.out] at hgr hup
        have hz6 := hgr.size
        have hz5 : (w4.alloc (.cells (Array.replicate 10 (.int .i64 0)) TBc)).heap.size = w4.heap.size + 1 := by simp
        have hcell : ∀ (c j : Nat), c < w4.heap.size → c ≠ w.heap.size → w6.cell? ⟨c, j, none⟩ = w4.cell? ⟨c, j, none⟩ := fun c j hc hne => by
          have h1 := hgr.block c (by omega) (fun e => hne (by injection e))
          have h2 := Below.heap_alloc w4 (.cells (Array.replicate 10 (.int .i64 0)) TBc) c hc
          unfold World.cell?; simp only [h1, h2]
        have HC6 := Lib.hid (show w6.cell? ⟨wr.heap.size, 0, none⟩ = some (.int .i64 p.area) ∧ w6.cell? ⟨wr.heap.size, 1, none⟩ = some (.int .i64 p.job) ∧ w6.cell? ⟨wr.heap.size, 2, none⟩ = some (.int .i64 p.sex) ∧ w6.cell? ⟨wr.heap.size, 3, none⟩ = some (.int .i64 p.pay) from
          ⟨(hcell _ 0 HZ4.out hwb).trans HC4.out.1, (hcell _ 1 HZ4.out hwb).trans HC4.out.2.1, (hcell _ 2 HZ4.out hwb).trans HC4.out.2.2.1, (hcell _ 3 HZ4.out hwb).trans HC4.out.2.2.2⟩)
        have HK6 := Lib.hid (show w6.cell? ⟨w3.heap.size, 0, none⟩ = some (.int .i64 p.area) ∧ w6.cell? ⟨w3.heap.size, 1, none⟩ = some (.int .i64 p.job) ∧ w6.cell? ⟨w3.heap.size, 2, none⟩ = some (.int .i64 p.sex) from
          ⟨(hcell _ 0 hk4 hwk).trans HK4.out.1, (hcell _ 1 hk4 hwk).trans HK4.out.2.1, (hcell _ 2 hk4 hwk).trans HK4.out.2.2⟩)
        have HB6 := Lib.hid (show Below w.heap.size w w6 from (B4.alloc B4.size _).grown hgr (by have := B4.size; omega) (fun j hj => by cases hj; exact Nat.le_refl _))
        have HADD := Lib.hid hadd
        have HLK := Lib.hid hlk
        have HBBB := Lib.hid (show BB w6.drew B (rowB y (key p)) from hBB)
        clear hze hlk hadd hBB hg6 g4 hgr hup hcell B4 hz5 hz6
        go_wp2
        clear r0 hup2
        obtain ⟨e0, e1, e2, e3⟩ := HC6.out
        obtain ⟨k0, k1, k2⟩ := HK6.out
        have r2 : (Instr.lookup TMp (.map (some w.heap.size)) (.agg #[.int .i64 p.area, .int .i64 p.job, .int .i64 p.sex]) false).run Try.prog w6.drew = .ok (.pointer (some ⟨B, 0, none⟩)) w6.drew := HLK.out _ rfl
        refine wp_region_still_tail 4 (by kernel_rfl) (by kernel_rfl) ?_
        simp only [List.take_succ_cons, List.take_zero, List.drop_succ_cons, List.drop_zero]
        repeat still_step
        try refine wpStill_nil ?_
        change wpList _ _ _ _ _ w6.drew
        clear r2 e0 e1 e2 e3 k0 k1 k2
        go_wp2_with fail
        refine (iAdd_any _ B p ⟨hp0, hp9⟩ i HI.out _ HM.out hn6 w6.drew HBBB.out).mono ?_
        rintro e w7 ⟨rfl, hb7, hg7⟩
        have HB7 := Lib.hid (HB6.out.grown (undrew hg7) HB6.out.size (fun j hj => by cases hj; omega))
        have HGB7 := Lib.hid (HADD.out (bd p) w7 (undrew hg7) (by rw [HY.out]; exact hb7))
        clear hb7 hg7
        go_wp2
        go_roundw
        case rel => exact ⟨k + 1, by omega, by go_num, by rw [HTF.out, HT.out]; exact HGB7.out, HB7.out⟩
        case measure => simp [intOf]; omega
    · have hkq : k = q := by omega
      have ht : x.take k = x := List.take_of_length_le (by rw [← HQ.out]; omega)
      rw [ht, hkq] at hgb
      have HGB := Lib.hid hgb
      clear hgb
      go_wp2
      go_ret
      exact ⟨rfl, HGB.out, hb⟩
end Go.Proofs.Ytaaljmmnfgghfaa
