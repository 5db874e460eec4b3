/- The exact law of the best recoding. -/
import Derived.Test.YtofobkamnolddaaAB2
import Derived.Test.YtofobkamnolddaaXR
import Derived.Test.YtofobkamnolddaaXC
namespace Go.Proofs.Ytofobkamnolddaa
open Go.RowKit
theorem iBest_rf (W : World) (l : List Pn) (v : Value) (hv : IsP W v l) (ll : List (List Int)) (u : Value) (hu : IsR W u ll) (k drop : Int) (b : Option Rc) (r : Rc) (f : Bool) (hg : abest l ll k drop = b) (hr : b.getD rlow = r) (hf : b.isSome = f) (w : World) (hb : Below W.heap.size W w) :
    Calls Try.prog 27 #[v, u, .int .i64 k, .int .i64 drop] w (Back (.tuple #[.agg #[.int .i64 r.area, .int .i64 r.job, .int .i64 r.sex], .bool f]) W) := by subst hr hf; exact iABest_is W l v hv ll u hu k drop b hg w hb
theorem sBest_rf (W : World) (l : List Pn) (v : Value) (hv : IsP W v l) (ll : List (List Int)) (u : Value) (hu : IsR W u ll) (k drop : Int) (b : Option Rc) (r : Rc) (f : Bool) (hg : abest l ll k drop = b) (hr : b.getD rlow = r) (hf : b.isSome = f) (w : World) (hb : Below W.heap.size W w) :
    Calls Try.prog 26 #[v, u, .int .i64 k, .int .i64 drop] w (Back (.tuple #[.agg #[.int .i64 r.area, .int .i64 r.job, .int .i64 r.sex], .bool f]) W) := by subst hr hf; exact sABest_is W l v hv ll u hu k drop b hg w hb
theorem eqRc_any (r : Rc) (w : World) : Calls Try.prog 28 #[.agg #[.int .i64 r.area, .int .i64 r.job, .int .i64 r.sex], .agg #[.int .i64 r.area, .int .i64 r.job, .int .i64 r.sex]] w (Back (.bool true) w) := by
  go_enter Try.func28, Try.ntmps28
  go_wp2
  go_ret
  exact ⟨rfl, ((Below.refl _ _).alloc (Nat.le_refl _) _).alloc (by simp) _⟩
set_option maxHeartbeats 4000000 in
theorem w_ExactAnonBest (l : List Pn) (lv : Value) (ll : List (List Int)) (llv : Value) (k d : Int) (W : World) (hl : IsP W lv l) (hll : IsR W llv ll) :
    Calls Try.prog 7 #[lv, llv, .int .i64 k, .int .i64 d] W fun e w' => e = .returned (.bool true) ∧ Below W.heap.size W w' := by
  obtain ⟨b, hb⟩ : ∃ b, abest l ll k d = b := ⟨_, rfl⟩
  obtain ⟨r, hr⟩ : ∃ r, b.getD rlow = r := ⟨_, rfl⟩
  obtain ⟨f, hf⟩ : ∃ f, b.isSome = f := ⟨_, rfl⟩
  have HG := Lib.hid hb; have HR := Lib.hid hr; have HF := Lib.hid hf
  have htt : (f != f) = false := by simp
  have HL := Lib.hid hl; have HLL := Lib.hid hll
  clear hb hr hf hl hll
  go_enter Try.func7, Try.ntmps7
  go_wp2_with fail
  refine (szP_is l lv 1048576 (by omega) (by omega) _ HL.out).mono ?_
  rintro e w' ⟨rfl, rfl⟩
  rcases szL_cases l.length (left := 1048576) (by omega) (by omega) with hz | ⟨l1, m1, hn⟩
  · rw [hz]; go_wp2; go_ret; exact ⟨rfl, Below.refl _ _⟩
  obtain ⟨s1, hs⟩ : ∃ z, szL l.length 1048576 = z := ⟨_, rfl⟩
  rw [hs] at l1 m1 ⊢
  have HNl := Lib.hid hn; clear hn hs
  go_wp2_with fail
  refine (szR_is ll llv s1 l1 m1 _ HLL.out).mono ?_
  rintro e w' ⟨rfl, rfl⟩
  rcases szL_cases (ll.length + tot ll) (left := s1) l1 m1 with hz | ⟨l2, m2, hn⟩
  · rw [hz]; go_wp2; go_ret; exact ⟨rfl, Below.refl _ _⟩
  obtain ⟨s2, hs⟩ : ∃ z, szL (ll.length + tot ll) s1 = z := ⟨_, rfl⟩
  rw [hs] at l2 m2 ⊢
  have HNll := Lib.hid hn; clear hn hs
  go_wp2_with fail
  refine (toP_is l lv HNl.out _ HL.out).mono ?_
  rintro e w1 ⟨x1, rfl, hx1, h1⟩
  go_wp2_with fail
  refine (toR_is ll llv HNll.out _ (HLL.out.below h1)).mono ?_
  rintro e w2 ⟨x2, rfl, hx2, h2⟩
  go_wp2_with fail
  refine (sBest_rf w2 l x1 (hx1.is.below h2) ll x2 hx2.is k d b r f HG.out HR.out HF.out _ (Below.refl _ _)).mono ?_
  rintro e w3 ⟨rfl, h3⟩
  have b3 : Below W.heap.size W w3 := h1.trans ((h2.trans (h3.mono h2.size)).mono h1.size)
  obtain ⟨W4, hW4⟩ : ∃ W4, W4 = w3.alloc (.cells #[.int .i64 r.area, .int .i64 r.job, .int .i64 r.sex] TRc) := ⟨_, rfl⟩
  have k4 := heap_alloc_new w3 (.cells #[.int .i64 r.area, .int .i64 r.job, .int .i64 r.sex] TRc)
  have b4 : Below W.heap.size W W4 := by rw [hW4]; exact b3.alloc b3.size _
  rw [← hW4] at k4
  have z4 : w3.heap.size < W4.heap.size := (Array.getElem?_eq_some_iff.1 k4).1
  have B4 := Lib.hid b4; have K4 := Lib.hid k4
  clear hx1 hx2 h1 h2 h3 b3 b4 k4
  go_wp2_with fail
  rw [← hW4]
  clear hW4
  refine (toP_is l lv HNl.out _ (HL.out.below B4.out)).mono ?_
  rintro e w5 ⟨x5, rfl, hx5, h5⟩
  have b5 := B4.out.trans (h5.mono B4.out.size)
  go_wp2_with fail
  refine (toR_is ll llv HNll.out _ (HLL.out.below b5)).mono ?_
  rintro e w6 ⟨x6, rfl, hx6, h6⟩
  have b6 := b5.trans (h6.mono b5.size)
  have X5 := Lib.hid (hx5.is.below h6); have X6 := Lib.hid hx6.is
  go_wp2_with fail
  refine (iBest_rf w6 l x5 X5.out ll x6 X6.out k d b r f HG.out HR.out HF.out _ (Below.refl _ _)).mono ?_
  rintro e w7 ⟨rfl, h7⟩
  have c47 : Below W4.heap.size W4 w7 := h5.trans ((h6.trans (h7.mono h6.size)).mono h5.size)
  obtain ⟨W8, hW8⟩ : ∃ W8, W8 = w7.alloc (.cells #[.int .i64 r.area, .int .i64 r.job, .int .i64 r.sex] TRc) := ⟨_, rfl⟩
  have g8 : Below w7.heap.size w7 W8 := by rw [hW8]; exact (Below.refl _ _).alloc (Nat.le_refl _) _
  have k8 := heap_alloc_new w7 (.cells #[.int .i64 r.area, .int .i64 r.job, .int .i64 r.sex] TRc)
  rw [← hW8] at k8
  have k48 := ((c47.trans (g8.mono c47.size)).block _ z4).trans K4.out
  obtain ⟨p0, p1, p2, _, _, _⟩ := blkR k8
  obtain ⟨q0, q1, q2, _, _, _⟩ := blkR k48
  rw [hW8] at p0 p1 p2 q0 q1 q2
  have B8 := Lib.hid (B4.out.trans ((c47.trans (g8.mono c47.size)).mono B4.out.size))
  have Y5 := Lib.hid ((X5.out.below h7).below g8); have Y6 := Lib.hid ((X6.out.below h7).below g8)
  clear hx5 hx6 h5 h6 h7 b5 b6 c47 g8 k8 k48 X5 X6
  go_wp2_with fail
  rw [← hW8]
  clear hW8 p0 p1 p2 q0 q1 q2
  refine (eqRc_any r _).mono ?_
  rintro e w9 ⟨rfl, h9⟩
  have b9 := B8.out.trans (h9.mono B8.out.size)
  go_wp2_with fail
  refine (toP_is l lv HNl.out _ (HL.out.below b9)).mono ?_
  rintro e w10 ⟨x10, rfl, hx10, h10⟩
  have b10 := b9.trans (h10.mono b9.size)
  go_wp2_with fail
  refine (eqP_arg l x5 x10 HNl.out _ ((Y5.out.below h9).below h10) hx10.is).mono ?_
  rintro e w11 ⟨rfl, h11⟩
  have b11 := b10.trans (h11.mono b10.size)
  go_wp2_with fail
  refine (toR_is ll llv HNll.out _ (HLL.out.below b11)).mono ?_
  rintro e w12 ⟨x12, rfl, hx12, h12⟩
  have b12 := b11.trans (h12.mono b11.size)
  go_wp2_with fail
  refine (eqR_arg ll x6 x12 HNll.out _ ((((Y6.out.below h9).below h10).below h11).below h12) hx12.is).mono ?_
  rintro e w13 ⟨rfl, h13⟩
  go_wp2
  go_ret
  exact ⟨rfl, b12.trans (h13.mono b12.size)⟩
end Go.Proofs.Ytofobkamnolddaa
