/- Contracts of the program: anonymity but for the best recoding. -/
import Derived.Test.YtodiadipbpchpaaAM
import Derived.Test.YtodiadipbpchpaaGC
set_option maxRecDepth 100000
namespace Go.Proofs.Ytodiadipbpchpaa
open Go.RowKit Go.Maps
theorem iNeed_any (k : Int) (w : World) : Calls Try.prog 30 #[.int .i64 k] w (VR (.bool (in3 k 1 40)) w) := by
  go_enter Try.func30, Try.ntmps30
  go_wp2
  all_goals (go_ret; exact ⟨retb (by rw [Bool.eq_iff_iff]; simp [in3]; try omega), rfl⟩)
def keepAt (x : List Pn) (k : Int) (n : Nat) : List Pn := (x.take n).filter (bigP x k)
theorem keepAt_succ (x : List Pn) (k : Int) (n : Nat) (hn : n < x.length) : keepAt x k (n + 1) = keepAt x k n ++ if k ≤ (cn (keys x) (key x[n]) : Int) then [x[n]] else [] := by
  unfold keepAt
  rw [List.take_succ_eq_append_getElem hn, List.filter_append]
  congr 1
  by_cases h : k ≤ (cn (keys x) (key x[n]) : Int)
  · rw [if_pos h, List.filter_cons, if_pos (by rw [bigP, big, decide_eq_true_eq]; exact h)]; rfl
  · rw [if_neg h, List.filter_cons, if_neg (by rw [bigP, big, decide_eq_true_eq]; exact h)]; rfl
theorem keepAt_all (x : List Pn) (k : Int) : keepAt x k x.length = keepP x k := by unfold keepAt keepP; rw [List.take_length]
theorem keepAt_len (x : List Pn) (k : Int) (n : Nat) : (keepAt x k n).length ≤ n := by
  have h1 := List.length_filter_le (bigP x k) (x.take n)
  have h2 := List.length_take_le n x
  unfold keepAt; omega
set_option maxHeartbeats 2000000 in
theorem iKeepL_any (x : List Pn) (q : Nat) (hq : q = x.length) (hx6 : x.length ≤ 100000) (hwf : Wk x) (A : Option Addr) (c : Nat) (k : Int) (w : World) (hr : Row w w.heap.size A (pcells x)) :
    Calls Try.prog 69 #[.slice A q c, .int .i64 k] w fun e w' => ∃ v, e = .returned v ∧ Own w' w.heap.size v (keepP x k) ∧ Below w.heap.size w w' := by
  have HQ := Lib.hid hq; clear hq
  have HWF := Lib.hid hwf; clear hwf
  have HR := Lib.hid hr; clear hr
  have hq6 : q ≤ 100000 := by rw [HQ.out]; exact hx6
  obtain ⟨i0, hi0, hz0, hz1, hz2⟩ := info_parts info_P
  go_enter Try.func69, Try.ntmps69
  go_wp2_with fail
  refine (iSizes_any x q HQ.out (by omega) HWF.out A c _ HR.out).mono ?_
  rintro e w3 ⟨rfl, hgr, h3⟩
  have HLK := Lib.hid (show ∀ p : Pn, wfK (key p) → ∀ u : World, Below w3.heap.size w3 u → (Instr.lookup TM (.map (some w.heap.size)) (.agg #[.int .i64 p.area, .int .i64 p.job, .int .i64 p.sex]) false).run Try.prog u = .ok (.int .i64 (cn (keys x) (key p) : Nat)) u from
    fun p hp u hu => grp_look hgr hp u (hu.block _ hgr.lt))
  have HB3 := Lib.hid h3
  have hz3 := h3.size
  clear hgr h3
  go_wp2_with (at_make; go_loud (refine wpList_make_own _ rfl _ _ TPS rfl w3.heap.size TP i0 (.agg #[.int .i64 0, .int .i64 0, .int .i64 0, .int .i64 0]) 4 Try.underlying23 hi0 hz0 hz1 _ _ _ q rfl rfl rfl (by rw [hz2]; omega) (by simp only [maxLen]; omega) (Nat.le_refl _) ?_); intro w4 ho4 hg4)
  have HB4 := Lib.hid (show Below w3.heap.size w3 w4 from (Below.refl _ _).grown hg4 (Nat.le_refl _) (fun k hk => by cases hk))
  have HO := Lib.hid (show Own w4 w3.heap.size _ [] from ho4)
  clear ho4 hg4 hi0 hz0 hz1 hz2
  go_wp2_with fail
  go_loopw [6, 16] (fun v i wr => ∃ j : Nat, j ≤ q ∧ i = .int .i64 j ∧ Own wr w3.heap.size v (keepAt x k j) ∧ Below w3.heap.size w3 wr) (fun _ i _ => q - (intOf i).toNat)
  case atStart => exact ⟨0, Nat.zero_le _, rfl, by rw [show keepAt x k 0 = [] from rfl]; exact HO.out, HB4.out⟩
  case round =>
    obtain ⟨j, hj, rfl, ho, hb⟩ := hrel
    clear HO HB4
    have HO := Lib.hid ho; clear ho
    have HB := Lib.hid hb
    have hz4 := hb.size
    have HLEN := Lib.hid (show (keepAt x k j).length + 1 ≤ 1000000 by have := keepAt_len x k j; omega)
    by_cases hlt : j < q
    · have hji : (j : Int) < (q : Int) := by omega
      have hjx : j < x.length := by rw [← HQ.out]; exact hlt
      obtain ⟨b, o, rfl, hbw, c0, c1, c2, c3⟩ := ((HR.out.below HB3.out (Nat.le_refl _)).below (hb.mono hz3) (Nat.le_refl _)).at_ j hjx
      have HS := Lib.hid (keepAt_succ x k j hjx)
      have HK := Lib.hid (HWF.out x[j] (List.getElem_mem hjx))
      obtain ⟨p, hp⟩ : ∃ p, x[j] = p := ⟨_, rfl⟩
      rw [hp] at c0 c1 c2 c3 HS HK
      clear hp hb
      obtain ⟨W5, hW5⟩ : ∃ W5, W5 = wr.alloc (.cells #[.int .i64 p.area, .int .i64 p.job, .int .i64 p.sex, .int .i64 p.pay] TP) := ⟨_, rfl⟩
      have hb5 : Below w3.heap.size w3 W5 := by rw [hW5]; exact HB.out.alloc hz4 _
      have HB5 := Lib.hid hb5
      have HO5 := Lib.hid (show Own W5 w3.heap.size _ (keepAt x k j) by rw [hW5]; exact HO.out.alloc _)
      have d0 : W5.cell? ⟨wr.heap.size, 0, none⟩ = some (.int .i64 p.area) := by rw [hW5]; simp [go_sem]
      have d1 : W5.cell? ⟨wr.heap.size, 1, none⟩ = some (.int .i64 p.job) := by rw [hW5]; simp [go_sem]
      have d2 : W5.cell? ⟨wr.heap.size, 2, none⟩ = some (.int .i64 p.sex) := by rw [hW5]; simp [go_sem]
      have d3 : W5.cell? ⟨wr.heap.size, 3, none⟩ = some (.int .i64 p.pay) := by rw [hW5]; simp [go_sem]
      have hlt5 : wr.heap.size < W5.heap.size := by rw [hW5]; simp
      clear hb5
      go_wp2_with fail
      rw [← hW5]
      clear hW5 c0 c1 c2 c3
      refine (iCodes_any p _).mono ?_
      rintro e w6 ⟨rfl, h6⟩
      have HB6 := Lib.hid (HB5.out.trans (h6.mono HB5.out.size))
      have HO6 := Lib.hid (ownP_below HO5.out h6)
      have e0 := (h6.cell (p := ⟨wr.heap.size, 0, none⟩) hlt5).trans d0
      have e1 := (h6.cell (p := ⟨wr.heap.size, 1, none⟩) hlt5).trans d1
      have e2 := (h6.cell (p := ⟨wr.heap.size, 2, none⟩) hlt5).trans d2
      have e3 := (h6.cell (p := ⟨wr.heap.size, 3, none⟩) hlt5).trans d3
      have r1 := HLK.out p HK.out w6 HB6.out
      obtain ⟨s, hs⟩ : ∃ s, cn (keys x) (key p) = s := ⟨_, rfl⟩
      rw [hs] at r1 HS
      clear hs h6 d0 d1 d2 d3
      by_cases hks : k ≤ (s : Int)
      · rw [if_pos hks] at HS
        go_wp2_with (at_builtin
                     refine app_people rfl (.tmp 26) (.tmp 28) rfl w3.heap.size _ _ rfl (HO6.out.alloc _) (w6.heap.size + 1) (some ⟨w6.heap.size, 0, none⟩) 1 1 [p] rfl rfl (rowP_new w6 _ _) HLEN.out (by have := HB6.out.size; simp; omega) ?_
                     intro v7 w7 ho7 hg7
                     have HB7 := Lib.hid (below_own (HB6.out.alloc HB6.out.size _) (HO6.out.alloc _) hg7)
                     have HO7 := Lib.hid ho7
                     clear ho7 hg7)
        go_roundw
        case rel => exact ⟨j + 1, by omega, by go_num, by rw [HS.out]; exact HO7.out, HB7.out⟩
        case measure => simp [intOf]; omega
      · rw [if_neg hks, List.append_nil] at HS
        go_wp2
        go_roundw
        case rel => exact ⟨j + 1, by omega, by go_num, by rw [HS.out]; exact HO6.out, HB6.out⟩
        case measure => simp [intOf]; omega
    · have hjq : j = x.length := by rw [← HQ.out]; omega
      have hall := keepAt_all x k
      rw [← hjq] at hall
      rw [hall] at HO
      clear hb
      go_wp2
      go_ret
      exact ⟨_, rfl, ownP_less HO.out hz3, HB3.out.trans (HB.out.mono hz3)⟩
end Go.Proofs.Ytodiadipbpchpaa
