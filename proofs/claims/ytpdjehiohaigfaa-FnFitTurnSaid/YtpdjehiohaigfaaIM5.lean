/- Contracts of the program: tables and masks that are valid, flags counted. -/
import Derived.Test.YtpdjehiohaigfaaIM4
import Derived.Test.YtpdjehiohaigfaaTS7
namespace Go.Proofs.Ytpdjehiohaigfaa
open Go.RowKit Go.Shelf
theorem iTab_is (W : World) (t : Tb) (v : Value) (hv : IsR W v t) (g : Bool) (hg : tabOk t = g) (w : World) (hb : Below W.heap.size W w) :
    Calls Try.prog 27 #[v] w (Back (.bool g) W) := by
  go_enter Try.func27, Try.ntmps27
  go_wp2_with fail
  refine (iTGrid_is W t _ hv g hg _ hb).mono ?_
  rintro e w1 ⟨rfl, b1⟩
  unfold gridV
  have hz1 := b1.size
  obtain ⟨A, c, rfl, _, _, _⟩ := hv
  cases g
  · go_wp2
    go_ret
    exact ⟨rfl, b1.alloc hz1 _⟩
  · go_wp2
    go_ret
    exact ⟨rfl, b1.alloc hz1 _⟩
theorem mk_rect {t : Tb} {m : Mk} (h : tabOk t = true) : mkOk t m = (rectM m && (decide ((m.length : Int) = t.length) && decide ((wdM m : Int) = wd t))) := by
  have ht := tab_iff.1 h
  rw [Bool.eq_iff_iff]
  simp only [mkOk, rectM, Bool.and_eq_true, decide_eq_true_eq, List.all_eq_true, in3, h]
  constructor
  · rintro ⟨⟨_, h1⟩, h2⟩
    have hw : wdM m = wd t := by
      cases m with
      | nil => have := ht.h1; simp at h1; omega
      | cons r m => exact h2 r (by simp)
    have := ht.h1; have := ht.h4; have := ht.w1; have := ht.w4
    exact ⟨⟨⟨⟨by omega, by omega⟩, by omega, by omega⟩, fun r hr => by rw [hw]; exact h2 r hr⟩, by omega, by omega⟩
  · rintro ⟨⟨_, h2⟩, h3, h4⟩
    exact ⟨⟨trivial, by omega⟩, fun r hr => by rw [h2 r hr]; omega⟩
set_option maxHeartbeats 1000000 in
theorem iMask_is (W : World) (t : Tb) (v : Value) (hv : IsR W v t) (m : Mk) (u : Value) (hu : IsM W u m) (g : Bool) (hg : mkOk t m = g) (w : World) (hb : Below W.heap.size W w) :
    Calls Try.prog 63 #[v, u] w (Back (.bool g) W) := by
  have HG := Lib.hid hg
  have HV := Lib.hid hv
  have HU := Lib.hid hu
  obtain ⟨A, c, rfl, _, _, _⟩ := hv
  obtain ⟨B, cu, rfl, _, _, _⟩ := hu
  obtain ⟨tt, htt⟩ : ∃ tt, tabOk t = tt := ⟨_, rfl⟩
  have HT := Lib.hid htt
  obtain ⟨mm, hmm⟩ : ∃ mm, rectM m = mm := ⟨_, rfl⟩
  have HM := Lib.hid hmm
  clear hg htt hmm
  go_enter Try.func63, Try.ntmps63
  go_wp2_with fail
  refine (iTGrid_is W t _ HV.out tt HT.out _ hb).mono ?_
  rintro e w1 ⟨rfl, b1⟩
  have hz1 := b1.size
  cases tt
  · have HE := Lib.hid (show g = false by rw [← HG.out, mkOk, HT.out]; rfl)
    rw [gridV_no]
    go_wp2
    go_ret
    exact ⟨retb HE.out.symm, b1.alloc hz1 _⟩
  have HE := Lib.hid ((mk_rect HT.out).symm.trans HG.out)
  rw [gridV_yes]
  obtain ⟨q, hq⟩ : ∃ q, t.length = q := ⟨_, rfl⟩
  rw [hq] at HV
  obtain ⟨d, hd⟩ : ∃ d, wd t = d := ⟨_, rfl⟩
  rw [hq, hd] at HE ⊢
  obtain ⟨W2, hW2⟩ : ∃ W2, W2 = w1.alloc (.cells #[.int .i64 q, .int .i64 d, .slice A q c] TGI) := ⟨_, rfl⟩
  have b2 : Below W.heap.size W W2 := by rw [hW2]; exact b1.alloc hz1 _
  have HK := Lib.hid (show ∀ X, Below W2.heap.size W2 X → X.heap[w1.heap.size]? = some (.cells #[.int .i64 q, .int .i64 d, .slice A q c] TGI (0, 0)) from fun X h => (h.block _ (by rw [hW2]; simp)).trans (by rw [hW2]; exact heap_alloc_new _ _))
  have hz2 := b2.size
  have HW := Lib.hid hW2.symm
  clear hW2 hq hd
  go_wp2_with fail
  rw [HW.out]
  refine (iGridM_is W2 m _ (HU.out.below b2) mm HM.out _ (Below.refl _ _)).mono ?_
  rintro e w3 ⟨rfl, b3⟩
  have hz3 := b3.size
  cases mm
  · have HE2 := Lib.hid (show g = false by rw [← HE.out, HM.out]; rfl)
    rw [show gridVM m (.slice B m.length cu) false = grV 0 0 (.slice none 0 0) from rfl]
    go_wp2
    go_ret
    exact ⟨retb HE2.out.symm, b2.trans ((b3.alloc hz3 _).mono hz2)⟩
  · rw [show gridVM m (.slice B m.length cu) true = grV m.length (wdM m) (.slice B m.length cu) from rfl]
    rw [HM.out] at HE
    obtain ⟨n, hn⟩ : ∃ n, m.length = n := ⟨_, rfl⟩
    obtain ⟨y, hy⟩ : ∃ y, wdM m = y := ⟨_, rfl⟩
    rw [hn, hy] at HE ⊢
    obtain ⟨c0, c1, _, _, _, _⟩ := blkG3 (HK.out _ (b3.alloc hz3 (.cells #[.int .i64 n, .int .i64 y, .slice B n cu] 100)))
    clear hn hy
    go_wp2
    all_goals (go_ret; exact ⟨retb (by rw [← HE.out]; simp [*]), b2.trans ((b3.alloc hz3 _).mono hz2)⟩)
set_option maxHeartbeats 1000000 in
theorem iMaskMany_is (W : World) (m : Mk) (u : Value) (hu : IsM W u m) (h9 : mmany m ≤ 1000000000) (g : Int) (hg : (mmany m : Int) = g) (w : World) (hb : Below W.heap.size W w) :
    Calls Try.prog 24 #[u] w (Back (.int .i64 g) W) := by
  have HG := Lib.hid hg
  obtain ⟨B, c', rfl, b1, b2, b3⟩ := hu
  obtain ⟨n, hn⟩ : ∃ n, n = m.length := ⟨_, rfl⟩
  have HN := Lib.hid hn
  have HM := Lib.hid b3
  have HB := Lib.hid hb
  have hnm : n ≤ maxLen := by omega
  have H9 := Lib.hid h9
  rw [← hn]
  unfold maxLen at hnm
  clear b1 b2 b3 hg hn hb h9
  go_enter Try.func24, Try.ntmps24
  go_wp2
  go_loopw [3, 10] (fun v i wr => ∃ k : Nat, k ≤ n ∧ i = .int .i64 k ∧ v = .int .i64 (mmany (m.take k) : Nat) ∧ Below W.heap.size W wr) (fun _ i _ => n - (intOf i).toNat)
  case atStart => exact ⟨0, Nat.zero_le _, rfl, rfl, HB.out⟩
  case round =>
    obtain ⟨k, hk, rfl, rfl, hb⟩ := hrel
    have HB2 := Lib.hid hb
    by_cases hlt : k < n
    · have hki : (k : Int) < (n : Int) := by omega
      have hkm : k < m.length := by rw [← HN.out]; exact hlt
      have HS := Lib.hid (mmany_take m hkm)
      have hle := mmany_tle m (k + 1)
      rw [mmany_take m hkm] at hle
      have h9 := H9.out
      obtain ⟨b', o', A1, c1, hA, hb1, hc1, hl1, hm1, hr1⟩ := HM.out.at_ k hkm
      subst hA
      obtain ⟨row, hrow⟩ : ∃ row, m.getD k [] = row := ⟨_, rfl⟩
      rw [hrow] at HS hle hc1 hl1 hr1
      obtain ⟨x, hx⟩ : ∃ x, x = row.length := ⟨_, rfl⟩
      have HX := Lib.hid hx
      rw [← hx] at hc1 hl1
      have hxm : x ≤ maxLen := by omega
      unfold maxLen at hxm
      have e1 := (hb.cell (p := ⟨b', o' + k, none⟩) hb1).trans hc1
      have HR1 := Lib.hid hr1
      obtain ⟨p, hp⟩ : ∃ p, mmany (m.take k) = p := ⟨_, rfl⟩
      rw [hp] at HS hle ⊢
      clear hc1 hr1 hrow hx hp hm1 hb
      go_wp2
      go_loopw [3, 16] (fun v j wr' => ∃ y : Nat, y ≤ x ∧ j = .int .i64 y ∧ v = .int .i64 (p + cntB (row.take y) : Nat) ∧ Below W.heap.size W wr') (fun _ j _ => x - (intOf j).toNat)
      case atStart => exact ⟨0, Nat.zero_le _, rfl, by simp [cntB], HB2.out⟩
      case round =>
        obtain ⟨y, hy, rfl, rfl, hb⟩ := hrel
        have HB3 := Lib.hid hb
        have hle2 := cntB_tle row y
        by_cases hyx : y < x
        · have hyi : (y : Int) < (x : Int) := by omega
          have hyr : y < row.length := by rw [← HX.out]; exact hyx
          obtain ⟨b2, o2, hA2, hb2, hc2⟩ := HR1.out.bool_ y hyr
          subst hA2
          have e2 := (hb.cell (p := ⟨b2, o2 + y, none⟩) hb2).trans hc2
          have HS2 := Lib.hid (cntB_take row hyr)
          have hle3 := cntB_tle row (y + 1)
          obtain ⟨s, hs⟩ : ∃ s, cntB (row.take y) = s := ⟨_, rfl⟩
          obtain ⟨f, hf⟩ : ∃ f, row.getD y false = f := ⟨_, rfl⟩
          rw [hs, hf] at HS2
          rw [hf] at e2
          rw [hs] at hle2 ⊢
          clear hs hf hyr hc2 hb
          cases f
          · have HS3 := Lib.hid (show cntB (row.take (y + 1)) = s by rw [HS2.out]; rfl)
            go_wp2
            go_roundw
            case rel => exact ⟨y + 1, by omega, by go_num, by rw [HS3.out], HB3.out⟩
            case measure => simp [intOf]; omega
          · have HS3 := Lib.hid (show cntB (row.take (y + 1)) = s + 1 by rw [HS2.out]; rfl)
            go_wp2
            go_roundw
            case rel => exact ⟨y + 1, by omega, by go_num, by rw [HS3.out]; go_num, HB3.out⟩
            case measure => simp [intOf]; omega
        · have hyi : ¬ (y : Int) < (x : Int) := by omega
          have hyr : row.take y = row := List.take_of_length_le (by rw [← HX.out]; omega)
          rw [hyr, ← HS.out]
          clear hyr hb
          go_wp2
          go_roundw
          case rel => exact ⟨k + 1, by omega, by go_num, rfl, HB3.out⟩
          case measure => simp [intOf]; omega
    · have hki : ¬ (k : Int) < (n : Int) := by omega
      have hkn : m.take k = m := List.take_of_length_le (by rw [← HN.out]; omega)
      rw [hkn, HG.out]
      clear hkn hb
      go_wp2
      go_ret
      exact ⟨rfl, HB2.out⟩
end Go.Proofs.Ytpdjehiohaigfaa
