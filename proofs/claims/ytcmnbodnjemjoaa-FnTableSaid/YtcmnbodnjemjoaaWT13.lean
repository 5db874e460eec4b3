/- A table's shape. -/
import Derived.Test.YtcmnbodnjemjoaaTG
import Derived.Test.YtcmnbodnjemjoaaTD3
import Derived.Test.YtcmnbodnjemjoaaA2
import Derived.Test.YtcmnbodnjemjoaaA4
import Derived.Deep.RegionHeld3
import Derived.Deep.CutRange
namespace Go.Proofs.Ytcmnbodnjemjoaa
open Go.RowKit
theorem row_form {N : Nat} {w : World} {v : Value} {x : List Int} (h : rowP N v x w) : ∃ A n c, v = .slice A n c := by
  obtain ⟨A, c, hv, _⟩ := (show Own1 TN w N v (icells x) from h).form
  exact ⟨A, _, c, hv⟩
theorem call_copy {W w : World} {a b : World → Prop} {fa fb : Nat → Prop} {v : Value} {t : Tb} {F : Ending → World → Prop} (h : Tri W w a b nilP fa fb nilF) (hv : IsR W v t) (hl : t.length ≤ 1000) (hr6 : ∀ r ∈ t, r.length ≤ 100000)
    (hF : ∀ e w', (∃ u, e = .returned u ∧ Tri W w' a b (copP w.heap.size w'.heap.size u t) fa fb (rgF w.heap.size w'.heap.size)) → F e w') : Calls Try.prog 17 #[v] w F :=
  (lCopyR_is W t v hv hl hr6 w h.lo).mono fun e w' hh => hF e w' (by
    obtain ⟨u, he, ho, hb⟩ := hh
    exact ⟨u, he, h.copy ho hb⟩)
set_option maxRecDepth 100000 in
set_option maxHeartbeats 4000000 in
theorem w_Table (A : Option Addr) (n c : Nat) (hnc : n ≤ c) (hn : n ≤ maxLen) (A2 : Option Addr) (m c2 : Nat) (_hmc : m ≤ c2) (hm : m ≤ maxLen) (w : World) (hb : Bytes w w.heap.size A n) (_hb2 : Bytes w w.heap.size A2 m) :
    Calls Try.prog 3 #[.slice A n c, .slice A2 m c2] w fun e w' => e = .returned (.bool true) ∧ Below w.heap.size w w' := by
  have hn2 := hn
  have hm2 := hm
  unfold maxLen at hn2 hm2
  rcases (show 1048576 < n ∨ (¬ 1048576 < n ∧ 1048576 < m) ∨ ¬ 1048576 < n ∧ ¬ 1048576 < m by omega) with hbig | ⟨hbig, hbig2⟩ | ⟨hbig, hbig2⟩
  · go_enter Try.func3, Try.ntmps3
    go_wp2
    go_ret
    exact ⟨rfl, Below.refl _ _⟩
  · go_enter Try.func3, Try.ntmps3
    go_wp2
    go_ret
    exact ⟨rfl, Below.refl _ _⟩
  · go_enter Try.func3, Try.ntmps3
    go_wp2_with fail
    refine (dTabValid_any A n c hnc hn _ hb).mono ?_
    rintro e W ⟨v, t, rfl, hv, hl, hlr, hbW⟩
    have HV := Lib.hid hv
    have HBW := Lib.hid hbW
    obtain ⟨g, hg⟩ : ∃ g, tabOk t = g := ⟨_, rfl⟩
    have HG := Lib.hid hg
    clear hv hbW
    go_wp2_with fail
    refine (iTab_is W t _ HV.out g HG.out _ (Below.refl _ _)).mono ?_
    rintro e w1 ⟨rfl, b1⟩
    go_wp2_with fail
    refine (sTab_is W t _ HV.out g HG.out _ b1).mono ?_
    rintro e w2 ⟨rfl, b2⟩
    cases g
    · clear hg
      go_wp2
      go_ret
      exact ⟨rfl, HBW.out.trans (b2.mono HBW.out.size)⟩
    have ht := tab_iff.1 hg
    have ht1 := ht.h1
    have ht4 := ht.h4
    have hw1 := ht.w1
    have hw4 := ht.w4
    obtain ⟨r, hr, hrq⟩ := modN m t.length ht1
    have hlk : (t.getD r []).length = wd t := ht.len _ (by rw [getD_of _ _ hrq]; exact List.getElem_mem _)
    have hl0 : (t.getD 0 []).length = wd t := ht.len _ (by rw [getD_of _ _ ht1]; exact List.getElem_mem _)
    have HX := Lib.hid (show tabOk (t ++ [t.getD 0 [] ++ [0]]) = false from tab_long ht (by rw [List.length_append, hl0]; simp))
    have HY := Lib.hid (show tabOk (t.set r ((t.getD r []).set 0 (-1))) = false from tab_neg (r := (t.getD r []).set 0 (-1)) (List.mem_set hrq _) (x := -1) (List.mem_set (by omega) _) (by omega))
    have HK := Lib.hid (show tabOk (t.take (r + 1)) = true from tab_iff.2 (tab_take ht (by omega) (by omega)))
    have HTL := Lib.hid (show t.length ≤ 1000 by omega)
    have HTR := Lib.hid (show ∀ r ∈ t, r.length ≤ 100000 from fun x hx => by have := ht.len x hx; omega)
    have HV2 := Lib.hid (HV.out.below b2)
    obtain ⟨At, ct, htv, htc, htm, hrt⟩ := HV2.out
    have HLL := Lib.hid hrt
    obtain ⟨bt, ot, A0, c0, hAt, hbt, e0, hx1, hx2, hr0⟩ := hrt.at_ 0 ht1
    clear hx1 hx2
    subst hAt htv
    obtain ⟨n0, hn0⟩ : ∃ n, n = (t.getD 0 []).length := ⟨_, rfl⟩
    rw [← hn0] at e0
    have HN0 := Lib.hid hn0
    have HL0 := Lib.hid (show (t.getD 0 []).length ≤ 1000 by omega)
    have HLK := Lib.hid (show 0 < (t.getD r []).length by omega)
    have HR0 := Lib.hid hr0
    obtain ⟨q, hq⟩ : ∃ q, t.length = q := ⟨_, rfl⟩
    have HQ := Lib.hid hq
    have HRQ := Lib.hid hrq
    rw [hq] at HV2 hr hrq ht1 ht4 htc ⊢
    obtain ⟨k, hk⟩ : ∃ k : Nat, (1 : Int) + (r : Int) = (k : Int) := ⟨1 + r, by omega⟩
    have hk1 : (k : Int) - 1 = (r : Int) := by omega
    have hkr : k = r + 1 := by omega
    have HKR := Lib.hid hkr
    have hq1 : (1 : Int) ≤ (q : Int) := by omega
    have hq0 : (0 : Int) < (q : Int) := by omega
    have hqn : 0 < q := ht1
    have hqz : ((q : Int) == 0) = false := by rw [beq_eq_false_iff_ne]; omega
    have hkq : (k : Int) ≤ (q : Int) := by omega
    have hkc : (k : Int) ≤ (ct : Int) := by omega
    have hri : (0 : Int) ≤ (r : Int) := by omega
    have hrqi : (r : Int) < (q : Int) := by omega
    have HFF := Lib.hid (show ∀ w', Below w2.heap.size w2 w' → (Below w2.heap.size w2 w' ∧ w'.cell? ⟨bt, ot, none⟩ = some (.slice A0 n0 c0)) from
      fun w' h => ⟨h, (h.cell (p := ⟨bt, ot, none⟩) hbt).trans e0⟩)
    clear hrt e0 hr0 hn0 hl0 hlk ht hg hl hlr hq hkr b1
    go_upto_region 9 with fail
    go_cut [9] from 41 to 51 (fun x wx => IsR wx x (t ++ [t.getD 0 [] ++ [0]]) ∧ Below w2.heap.size w2 wx)
    case first =>
      have hS := Tri.start w2
      clear hr hk hk1
      go_region_held3 (fun w' => Below w2.heap.size w2 w' ∧ w'.cell? ⟨bt, ot, none⟩ = some (.slice A0 n0 c0))
        (first | exact HFF.out _ (by assumption) | exact HFF.out _ (hS).lo | exact HFF.out _ (hS).lo.drew | exact HFF.out _ (hS.new0).lo | exact HFF.out _ (hS.new0).lo.drew | exact HFF.out _ (hS.lit _ _).lo | exact HFF.out _ (hS.lit _ _).lo.drew | exact HFF.out _ (hS.new0.lit _ _).lo | exact HFF.out _ (hS.new0.lit _ _).lo.drew | exact HFF.out _ ((hS.lit _ _).new0).lo | exact HFF.out _ ((hS.lit _ _).new0).lo.drew)
        (first
          | (go_at_call 17
             refine call_copy (W := w2) (by first | exact hS | exact (hS).drew | exact hS.new0 | exact (hS.new0).drew | exact hS.lit _ _ | exact (hS.lit _ _).drew | exact hS.new0.lit _ _ | exact (hS.new0.lit _ _).drew | exact (hS.lit _ _).new0 | exact ((hS.lit _ _).new0).drew) HV2.out HTL.out HTR.out ?_
             clear hS
             rintro e w5 ⟨v5, rfl, hS⟩)
          | (refine step_row rfl (.tmp 43) (.tmp 46) rfl (by first | exact hS | exact (hS).drew | exact hS.lit _ _ | exact (hS.lit _ _).drew | exact hS.new0 | exact (hS.new0).drew | exact hS.new0.lit _ _ | exact (hS.new0.lit _ _).drew | exact (hS.lit _ _).new0 | exact ((hS.lit _ _).new0).drew) (by first | rfl | simp [Act.eval]) A0 n0 c0 (t.getD 0 []) rfl HN0.out HR0.out HL0.out ?_
             clear hS
             intro v6 w6 hS)
          | (refine step_one rfl (.tmp 47) (.tmp 48) rfl (by first | exact hS | exact (hS).drew | exact hS.lit _ _ | exact (hS.lit _ _).drew) (by first | rfl | simp [Act.eval]) (by first | rfl | simp [Act.eval]) HL0.out ?_
             clear hS
             intro v7 w7 hS
             obtain ⟨A7, n7, c7, hv7⟩ := row_form hS.pa
             subst hv7)
          | (refine step_rows rfl (.tmp 42) (.tmp 50) rfl (by first | exact hS | exact (hS).drew | exact hS.lit _ _ | exact (hS.lit _ _).drew) (by first | rfl | simp [Act.eval]) (by first | rfl | simp [Act.eval]) HTL.out ?_
             intro v8 w8 hy8 hb8))
      all_goals
        go_wp2_with fail
        go_meet
        exact ⟨hy8, hb8⟩
    case rest =>
      obtain ⟨hy8, hb8⟩ := hcut
      have HX8 := Lib.hid hy8
      have HB8 := Lib.hid hb8
      have HT := Lib.hid (show IsR w2 (.slice (some ⟨bt, ot, none⟩) k ct) (t.take (r + 1)) from ⟨_, ct, by rw [List.length_take, HQ.out, Nat.min_eq_left (by omega), HKR.out], by rw [List.length_take, HQ.out]; omega, htm, HLL.out.front (r + 1)⟩)
      clear hy8 hb8
      go_wp2_with fail
      refine (lCopyR_is w2 t _ HV2.out HTL.out HTR.out wc HB8.out).mono ?_
      rintro e w5 ⟨v5, rfl, ho5, h5⟩
      obtain ⟨g5, c5, gi, ci, hv5, e5, hgB, hgi, hgg, e6, hfz, hset⟩ := Mine.cell ho5 (i := r) (j := 0) HRQ.out HLK.out
      have b5 : Below w2.heap.size w2 w5 := HB8.out.trans (h5.mono HB8.out.size)
      have B6 := Lib.hid (show Below w2.heap.size w2 (w5.setCell ⟨gi, 0, none⟩ (.int .i64 (-1))) from b5.setCell (p := ⟨gi, 0, none⟩) (Nat.le_trans HB8.out.size hgi.1) _)
      have h6 : Below wc.heap.size wc (w5.setCell ⟨gi, 0, none⟩ (.int .i64 (-1))) := h5.setCell (p := ⟨gi, 0, none⟩) hgi.1 _
      have HX6 := Lib.hid (HX8.out.below h6)
      have HY6 := Lib.hid ((hset (-1)).is)
      obtain ⟨n5, hn5⟩ : ∃ n, (t.getD r []).length = n := ⟨_, rfl⟩
      have hn50 : 0 < n5 := by have := HLK.out; omega
      have hn5i : (0 : Int) < (n5 : Int) := by omega
      rw [hn5] at e5
      subst hv5
      rw [HQ.out] at HY6 ⊢
      clear hset hn5 ho5 h5 h6 b5 hgB hgi hgg
      go_wp2_with fail
      refine (iTab_is (w5.setCell ⟨gi, 0, none⟩ (.int .i64 (-1))) (t.take (r + 1)) _ (HT.out.below B6.out) true HK.out _ (Below.refl _ _)).mono ?_
      rintro e w7 ⟨rfl, b7⟩
      clear e5 e6 hfz
      go_wp2_with fail
      refine (iTab_is (w5.setCell ⟨gi, 0, none⟩ (.int .i64 (-1))) (t ++ [t.getD 0 [] ++ [0]]) _ HX6.out false HX.out _ b7).mono ?_
      rintro e w8 ⟨rfl, b8⟩
      go_wp2_with fail
      refine (iTab_is (w5.setCell ⟨gi, 0, none⟩ (.int .i64 (-1))) (t.set r ((t.getD r []).set 0 (-1))) _ HY6.out false HY.out _ b8).mono ?_
      rintro e w9 ⟨rfl, b9⟩
      go_wp2
      go_ret
      exact ⟨by first | rfl | exact retb (by simp), HBW.out.trans ((b2.trans ((B6.out.trans (b9.mono B6.out.size)).mono b2.size)).mono HBW.out.size)⟩
end Go.Proofs.Ytcmnbodnjemjoaa
