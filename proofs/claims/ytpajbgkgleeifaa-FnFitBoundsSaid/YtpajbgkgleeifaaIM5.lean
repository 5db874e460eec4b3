/- Contracts of the program: tables and masks that are valid, flags counted. -/
import Derived.Test.YtpajbgkgleeifaaIM4
import Derived.Test.YtpajbgkgleeifaaTS7
namespace Go.Proofs.Ytpajbgkgleeifaa
open Go.RowKit Go.Shelf
theorem iTab_is (W : World) (t : Tb) (v : Value) (hv : IsR W v t) (g : Bool) (hg : tabOk t = g) (w : World) (hb : Below W.heap.size W w) :
    Calls Try.prog 20 #[v] w (Back (.bool g) W) := by
  go_enter Try.func20, Try.ntmps20
  go_wp2_with fail
  refine (iTGrid_is W t _ hv g hg _ hb).mono ?_
  rintro e w1 ⟨rfl, b1⟩
  unfold gridV
  have hz1 := b1.size
  obtain ⟨A, c, rfl, _, _, _⟩ := hv
  cases g
  · go_wp2
    go_ret
    exact ⟨rfl, b1.alloc hz1 _⟩
  · go_wp2
    go_ret
    exact ⟨rfl, b1.alloc hz1 _⟩
theorem mk_rect {t : Tb} {m : Mk} (h : tabOk t = true) : mkOk t m = (rectM m && (decide ((m.length : Int) = t.length) && decide ((wdM m : Int) = wd t))) := by
  have ht := tab_iff.1 h
  rw [Bool.eq_iff_iff]
  simp only [mkOk, rectM, Bool.and_eq_true, decide_eq_true_eq, List.all_eq_true, in3, h]
  constructor
  · rintro ⟨⟨_, h1⟩, h2⟩
    have hw : wdM m = wd t := by
      cases m with
      | nil => have := ht.h1; simp at h1; omega
      | cons r m => exact h2 r (by simp)
    have := ht.h1; have := ht.h4; have := ht.w1; have := ht.w4
    exact ⟨⟨⟨⟨by omega, by omega⟩, by omega, by omega⟩, fun r hr => by rw [hw]; exact h2 r hr⟩, by omega, by omega⟩
  · rintro ⟨⟨_, h2⟩, h3, h4⟩
    exact ⟨⟨trivial, by omega⟩, fun r hr => by rw [h2 r hr]; omega⟩
set_option maxHeartbeats 1000000 in
theorem iMask_is (W : World) (t : Tb) (v : Value) (hv : IsR W v t) (m : Mk) (u : Value) (hu : IsM W u m) (g : Bool) (hg : mkOk t m = g) (w : World) (hb : Below W.heap.size W w) :
    Calls Try.prog 51 #[v, u] w (Back (.bool g) W) := by
  have HG := Lib.hid hg
  have HV := Lib.hid hv
  have HU := Lib.hid hu
  obtain ⟨A, c, rfl, _, _, _⟩ := hv
  obtain ⟨B, cu, rfl, _, _, _⟩ := hu
  obtain ⟨tt, htt⟩ : ∃ tt, tabOk t = tt := ⟨_, rfl⟩
  have HT := Lib.hid htt
  obtain ⟨mm, hmm⟩ : ∃ mm, rectM m = mm := ⟨_, rfl⟩
  have HM := Lib.hid hmm
  clear hg htt hmm
  go_enter Try.func51, Try.ntmps51
  go_wp2_with fail
  refine (iTGrid_is W t _ HV.out tt HT.out _ hb).mono ?_
  rintro e w1 ⟨rfl, b1⟩
  have hz1 := b1.size
  cases tt
  · have HE := Lib.hid (show g = false by rw [← HG.out, mkOk, HT.out]; rfl)
    rw [gridV_no]
    go_wp2
    go_ret
    exact ⟨retb HE.out.symm, b1.alloc hz1 _⟩
  have HE := Lib.hid ((mk_rect HT.out).symm.trans HG.out)
  rw [gridV_yes]
  obtain ⟨q, hq⟩ : ∃ q, t.length = q := ⟨_, rfl⟩
  rw [hq] at HV
  obtain ⟨d, hd⟩ : ∃ d, wd t = d := ⟨_, rfl⟩
  rw [hq, hd] at HE ⊢
  obtain ⟨W2, hW2⟩ : ∃ W2, W2 = w1.alloc (.cells #[.int .i64 q, .int .i64 d, .slice A q c] TGI) := ⟨_, rfl⟩
  have b2 : Below W.heap.size W W2 := by rw [hW2]; exact b1.alloc hz1 _
  have HK := Lib.hid (show ∀ X, Below W2.heap.size W2 X → X.heap[w1.heap.size]? = some (.cells #[.int .i64 q, .int .i64 d, .slice A q c] TGI (0, 0)) from fun X h => (h.block _ (by rw [hW2]; simp)).trans (by rw [hW2]; exact heap_alloc_new _ _))
  have hz2 := b2.size
  have HW := Lib.hid hW2.symm
  clear hW2 hq hd
  go_wp2_with fail
  rw [HW.out]
  refine (iGridM_is W2 m _ (HU.out.below b2) mm HM.out _ (Below.refl _ _)).mono ?_
  rintro e w3 ⟨rfl, b3⟩
  have hz3 := b3.size
  cases mm
  · have HE2 := Lib.hid (show g = false by rw [← HE.out, HM.out]; rfl)
    rw [show gridVM m (.slice B m.length cu) false = grV 0 0 (.slice none 0 0) from rfl]
    go_wp2
    go_ret
    exact ⟨retb HE2.out.symm, b2.trans ((b3.alloc hz3 _).mono hz2)⟩
  · rw [show gridVM m (.slice B m.length cu) true = grV m.length (wdM m) (.slice B m.length cu) from rfl]
    rw [HM.out] at HE
    obtain ⟨n, hn⟩ : ∃ n, m.length = n := ⟨_, rfl⟩
    obtain ⟨y, hy⟩ : ∃ y, wdM m = y := ⟨_, rfl⟩
    rw [hn, hy] at HE ⊢
    obtain ⟨c0, c1, _, _, _, _⟩ := blkG3 (HK.out _ (b3.alloc hz3 (.cells #[.int .i64 n, .int .i64 y, .slice B n cu] 87)))
    clear hn hy
    go_wp2
    all_goals (go_ret; exact ⟨retb (by rw [← HE.out]; simp [*]), b2.trans ((b3.alloc hz3 _).mono hz2)⟩)
end Go.Proofs.Ytpajbgkgleeifaa
