/- A mask has the size of its table. -/
import Derived.Test.YtcmnbodnjemjoaaTI
import Derived.Test.YtcmnbodnjemjoaaTL4
import Derived.Test.YtcmnbodnjemjoaaTD5
import Derived.Test.YtcmnbodnjemjoaaA2
import Derived.Test.YtcmnbodnjemjoaaA4
import Derived.Deep.RegionHeld3
namespace Go.Proofs.Ytcmnbodnjemjoaa
open Go.RowKit
/-- The header of one row of somebody else's. -/
theorem head_fix {w : World} {b o : Nat} {ll : Mk} {hv : Value} (h : LB w w.heap.size (some ⟨b, o, none⟩) ll) {k : Nat} (hk : k < ll.length) (hc : w.cell? ⟨b, o + k, none⟩ = some hv)
    (w' : World) (hb : Below w.heap.size w w') (no : Option Nat) (hno : ∀ g, no = some g → w.heap.size ≤ g) : HeadsB w' 0 no [hv] [ll.getD k []] := by
  obtain ⟨b', o', Ai, ci, hA, hlt, hc', h1, h2, h3⟩ := h.at_ k hk
  injection hA with hA
  injection hA with e1 e2 _
  subst e1 e2
  rw [hc] at hc'
  injection hc' with hc'
  refine ⟨rfl, fun i hi => ?_⟩
  obtain rfl : i = 0 := by simpa using hi
  refine ⟨Ai, ci, by rw [hc']; rfl, h1, h2, ?_⟩
  rcases h3 with h3 | ⟨b2, o2, rfl, hb2, hc2⟩
  · left
    show ll.getD k [] = []
    have := bcells_len (ll.getD k []); rw [h3] at this; exact List.eq_nil_of_length_eq_zero this.symm
  · exact .inr ⟨b2, o2, rfl, Nat.zero_le _, Nat.lt_of_lt_of_le hb2 hb.size, fun e => by have := hno b2 e.symm; omega, fun j u hu => (hb.cell (p := ⟨b2, o2 + j, none⟩) hb2).trans (hc2 j u hu)⟩
theorem lit_row (w' : World) (g : Nat) (hv : Value) (hg : w'.heap[g]? = some (.cells #[hv] TBS (0, 0))) : Row w' (g + 1) (some ⟨g, 0, none⟩) [hv] :=
  .inr ⟨_, 0, rfl, Nat.lt_succ_self _, fun j u hu => by rw [Nat.zero_add, cell_of_row _ _ j #[hv] TBS (0, 0) hg]; simpa using hu⟩
theorem InM.ownLB {w : World} {B T : Nat} {v : Value} {ll : Mk} (h : InM w B T v ll) : OwnLB w B 0 v ll := by
  obtain ⟨_, _, hs, ho, hr⟩ := h
  exact ⟨hs, ho, hr.heads.less (Nat.zero_le _)⟩
theorem OwnLB.isM {w : World} {B L : Nat} {v : Value} {ll : Mk} (h : OwnLB w B L v ll) : IsM w v ll := by
  obtain ⟨A, c, hv, h1, h2, h3⟩ := h.form
  exact ⟨A, c, hv, h1, h2, h3⟩
/-- 'append' of one row's header, in a drawn region. -/
theorem stepLB {ops : Array Oper} {o : Oper} {a : Act} {w : World} {K : Act → World → Prop} {Q : Exit → Act → World → Prop} {E : Prop} (hw : Region.wanted o (yielded ops a.tmps) = true) (s x : Operand)
    (ho : o.op = .call { callee := .builtin .append, args := #[s, x], argTypes := #[TBSS, TBSS] }) (B : Nat) (v : Value) (ll : Mk) (hs : a.eval s = v) (hown : OwnLB w B 0 v ll)
    (g : Nat) (hv : Value) (r : List Bool) (hx : a.eval x = .slice (some ⟨g, 0, none⟩) 1 1) (hr : w.heap[g]? = some (.cells #[hv] TBS (0, 0))) (hh : HeadsB w 0 v.ownBlock [hv] [r]) (hlen : ll.length ≤ 100000) (hbase : B ≤ w.heap.size)
    (h : ∀ v' w', IsM w' v' (ll ++ [r]) → Below B w w' → K (a.put o.dst v') w') : if Region.wanted o (yielded ops a.tmps) = true then Oper.wp Try.prog o a w K Q else E := by
  rw [if_pos hw]
  refine wp_appendLB s x ho B 0 v ll hs hown (g + 1) _ 1 1 [hv] [r] rfl hx (lit_row w g hv hr) hh (by simp; omega) hbase fun v' w' h2 h3 => h v' w' h2.isM ?_
  exact (Below.refl B w).grown h3 hbase fun k hk => (hown.ob k hk).1
set_option maxRecDepth 100000 in
set_option maxHeartbeats 4000000 in
theorem w_Mask (A : Option Addr) (n c : Nat) (hnc : n ≤ c) (hn : n ≤ maxLen) (w : World) (hb : Bytes w w.heap.size A n) :
    Calls Try.prog 8 #[.slice A n c] w fun e w' => e = .returned (.bool true) ∧ Below w.heap.size w w' := by
  have hn2 := hn
  unfold maxLen at hn2
  rcases (show 1048576 < n ∨ ¬ 1048576 < n by omega) with hbig | hbig
  · go_enter Try.func8, Try.ntmps8
    go_wp2
    go_ret
    exact ⟨rfl, Below.refl _ _⟩
  · go_enter Try.func8, Try.ntmps8
    go_wp2_with fail
    refine (dMask_any A n c hnc hn _ hb).mono ?_
    rintro e W ⟨tv, t, u, m, rfl, ht, hu, hl, hlr, hm, hmr, hbW⟩
    have HT := Lib.hid ht
    have HU := Lib.hid hu
    obtain ⟨g, hg⟩ : ∃ g, mkOk t m = g := ⟨_, rfl⟩
    have HG := Lib.hid hg
    have HBW := Lib.hid hbW
    have HMR := Lib.hid hmr
    clear ht hu hbW hmr hlr
    go_wp2_with fail
    refine (iMask_is W t _ HT.out m _ HU.out g HG.out _ (Below.refl _ _)).mono ?_
    rintro e w1 ⟨rfl, b1⟩
    go_wp2_with fail
    refine (sMask_is W t _ HT.out m _ HU.out g HG.out _ b1).mono ?_
    rintro e w2 ⟨rfl, b2⟩
    cases g
    · clear hg
      go_wp2
      go_ret
      exact ⟨rfl, HBW.out.trans (b2.mono HBW.out.size)⟩
    obtain ⟨hmm, hm2, hm3⟩ := m_mask hg
    obtain ⟨hT1, hML, hMR⟩ := mk_parts.1 hg
    have h9 := mmany_bd (m := m) (by omega) (fun r hr => by have := HMR.out r hr; omega)
    obtain ⟨z, hz⟩ : ∃ z : Int, (mmany m : Int) = z := ⟨_, rfl⟩
    rw [hz] at hmm
    have HZ := Lib.hid hz
    have hzb : 0 ≤ z ∧ z ≤ 1000000 := by omega
    have H9 := Lib.hid (show mmany m ≤ 1000000000 by omega)
    have HM2 := Lib.hid (show mkOk t (m.drop 1) = false by rw [List.drop_one]; exact hm2)
    have HM3 := Lib.hid (hm3 (m.getD 0 []))
    have ht1 := hT1.h1
    have ht4 := hT1.h4
    have hm1 : 0 < m.length := by omega
    obtain ⟨At, ct, htv, htc, htm, hrt⟩ := HT.out.below b2
    obtain ⟨Am, cm, huv, huc, hum, hru⟩ := HU.out.below b2
    have HU2 := Lib.hid (HU.out.below b2)
    have HT2 := Lib.hid (HT.out.below b2)
    obtain ⟨bt, ot, A0, c0, hAt, hbt, e0, hx1, hx2, hx3⟩ := hrt.at_ 0 ht1
    clear hx1 hx2 hx3
    have hw0 : (t.getD 0 []).length = wd t := hT1.len _ (by rw [getD_of _ _ ht1]; exact List.getElem_mem _)
    rw [hw0] at e0
    have hwd := hT1.w4
    obtain ⟨bm, om, Am0, cm0, hAm, hbm, f0, hx1, hx2, hx3⟩ := hru.at_ 0 hm1
    clear hx1 hx2 hx3
    subst hAt hAm
    have HNO := Lib.hid (head_fix hru hm1 f0)
    obtain ⟨L0, hL0⟩ : ∃ L, (m.getD 0 []).length = L := ⟨_, rfl⟩
    rw [hL0] at f0 HNO
    obtain ⟨B2, hsl0, hB2⟩ := sliceTailLB (some ⟨bm, om, none⟩) m.length cm 1 (by omega) huc
    have hsl1 : ∀ w, (Instr.sliceAt TBSS (.slice (some ⟨bm, om, none⟩) m.length cm) (some (.int .i64 1)) none none).run Try.prog w = .ok (.slice B2 (m.length - 1) (cm - 1)) w := hsl0
    have HUT := Lib.hid (show IsM w2 (.slice B2 (m.length - 1) (cm - 1)) (m.drop 1) from ⟨B2, cm - 1, by rw [List.length_drop], by rw [List.length_drop]; omega, by omega, hB2 w2 _ m rfl hru⟩)
    subst htv huv
    obtain ⟨q, hq⟩ : ∃ q, t.length = q := ⟨_, rfl⟩
    obtain ⟨d, hd⟩ : ∃ d, wd t = d := ⟨_, rfl⟩
    obtain ⟨p1, hp1⟩ : ∃ p, q - 1 = p := ⟨_, rfl⟩
    have hq1 : (1 : Int) ≤ (q : Int) := by omega
    have HML := Lib.hid (show m.length ≤ 1000 by omega)
    have HMR6 := Lib.hid (show ∀ r ∈ m, r.length ≤ 100000 from fun r hr => by have := HMR.out r hr; omega)
    have HML6 := Lib.hid (show m.length ≤ 100000 by omega)
    rw [hML] at hsl1 HUT HU2 ⊢
    rw [hq, hd] at hmm
    rw [hq] at hsl1 HUT HU2 HT2 ht1 ht4 ⊢
    rw [hd] at e0 hwd
    rw [hp1] at hsl1 HUT
    have hqd : (q : Int) * (d : Int) ≤ 16 := by
      have h : q * d ≤ 4 * 4 := Nat.mul_le_mul ht4 hwd
      have e : (q : Int) * (d : Int) = ((q * d : Nat) : Int) := by simp
      rw [e]; omega
    obtain ⟨x, hx⟩ : ∃ x, (q : Int) * (d : Int) = x := ⟨_, rfl⟩
    have hx0 : 0 ≤ x := by rw [← hx]; exact Int.mul_nonneg (by omega) (by omega)
    rw [hx] at hmm hqd
    have hwx : IntKind.i64.wrap ((q : Int) * (d : Int)) = x := by rw [hx, IntKind.wrap_i64]; omega
    have hz0 : 0 ≤ z := hzb.1
    have hi0 : (0 : Int) < (q : Int) := by omega
    have hn0 : 0 < q := ht1
    have HFF := Lib.hid (show ∀ w', Below w2.heap.size w2 w' → (Below w2.heap.size w2 w' ∧ w'.cell? ⟨bt, ot, none⟩ = some (.slice A0 d c0) ∧ w'.cell? ⟨bm, om, none⟩ = some (.slice Am0 L0 cm0)) from
      fun w' h => ⟨h, (h.cell (p := ⟨bt, ot, none⟩) hbt).trans e0, (h.cell (p := ⟨bm, om, none⟩) hbm).trans f0⟩)
    have bd : Below w2.heap.size w2 w2.drew := (Below.refl _ _).drew
    clear hx e0 f0 hrt hru hsl0 hB2 hg hm2 hm3 hT1 hML hMR h9 hz hzb hL0 hw0 hq hd hp1 HT HU hl hm1 hm b1 htc htm huc hum
    go_wp2
    go_region_held3 (fun w' => Below w2.heap.size w2 w' ∧ w'.cell? ⟨bt, ot, none⟩ = some (.slice A0 d c0) ∧ w'.cell? ⟨bm, om, none⟩ = some (.slice Am0 L0 cm0))
      (first | exact HFF.out _ (by assumption) | exact HFF.out _ bd | exact HFF.out _ (Below.alloc (by assumption) (Below.size (by assumption)) _))
      (first
        | (go_at_call 33
           with_reducible refine (iMaskMany_is w2 m _ HU2.out H9.out z HZ.out _ bd).mono ?_
           rintro e w3 ⟨rfl, b3⟩)
        | (go_at_call 33
           with_reducible refine (iMaskMany_is w2 m _ HU2.out H9.out z HZ.out _ b3).mono ?_
           rintro e w4 ⟨rfl, b4⟩)
        | (go_at_call 31
           with_reducible refine (iMask_is w2 t _ HT2.out (m.drop 1) _ HUT.out false HM2.out _ b4).mono ?_
           rintro e w5 ⟨rfl, b5⟩)
        | (go_at_call 34
           with_reducible refine (lCopyM_is w2 m _ HU2.out HML.out HMR6.out w5 b5).mono ?_
           rintro e w6 ⟨v6, rfl, ho6, h6⟩
           have b6 : Below w2.heap.size w2 w6 := b5.trans (h6.mono b5.size)
           have hb5s := b5.size
           have hh6 := HNO.out (w6.alloc (.cells #[.slice Am0 L0 cm0] TBS)) (b6.alloc b6.size _) v6.ownBlock (fun g hg => by have := (ho6.ownLB.ob g hg).1; omega)
           have hr6 := heap_alloc_new w6 (.cells #[.slice Am0 L0 cm0] TBS)
           have hz6 : w5.heap.size ≤ (w6.alloc (.cells #[.slice Am0 L0 cm0] TBS)).heap.size := by have := h6.size; simp; omega
           have hl6 := ho6.ownLB.alloc (.cells #[.slice Am0 L0 cm0] TBS)
           have b7 : Below w2.heap.size w2 (w6.alloc (.cells #[.slice Am0 L0 cm0] TBS)) := b6.alloc b6.size _)
        | (go_at_call 34
           refine (lCopyM_is w2 m _ HU2.out HML.out HMR6.out (w5.alloc (.cells #[.slice Am0 L0 cm0] TBS)) (b5.alloc b5.size _)).mono ?_
           rintro e w6 ⟨v6, rfl, ho6, h6⟩
           have b5a : Below w2.heap.size w2 (w5.alloc (.cells #[.slice Am0 L0 cm0] TBS)) := b5.alloc b5.size _
           have b6 : Below w2.heap.size w2 w6 := b5a.trans (h6.mono b5a.size)
           have hb5s := b5a.size
           have hh6 := HNO.out w6 b6 v6.ownBlock (fun g hg => by have := (ho6.ownLB.ob g hg).1; omega)
           have hr6 : w6.heap[w5.heap.size]? = some (.cells #[.slice Am0 L0 cm0] TBS (0, 0)) := (h6.block w5.heap.size (by simp)).trans (heap_alloc_new w5 _)
           have hz6 : (w5.alloc (.cells #[.slice Am0 L0 cm0] TBS)).heap.size ≤ w6.heap.size := h6.size
           have hl6 := ho6.ownLB
           have b7 := b6)
        | (refine stepLB rfl (.tmp 56) (.tmp 60) rfl _ v6 m (by simp [Act.eval]) hl6 _ (.slice Am0 L0 cm0) (m.getD 0 []) rfl hr6 hh6 HML6.out hz6 ?_
           intro v8 w8 ho8 hb8
           have b8 : Below w2.heap.size w2 w8 := b7.trans (hb8.mono (by omega)))
        | (go_at_call 31
           refine (iMask_is w8 t _ (HT2.out.below b8) (m ++ [m.getD 0 []]) _ ho8 false HM3.out _ (Below.refl _ _)).mono ?_
           rintro e w9 ⟨rfl, b9⟩
           have hb9 : Below w2.heap.size w2 w9 := b8.trans (b9.mono b8.size)))
    all_goals
      go_wp2
      go_ret
      exact ⟨by first | rfl | exact retb (by simp), HBW.out.trans ((b2.trans (hb9.mono b2.size)).mono HBW.out.size)⟩
end Go.Proofs.Ytcmnbodnjemjoaa
