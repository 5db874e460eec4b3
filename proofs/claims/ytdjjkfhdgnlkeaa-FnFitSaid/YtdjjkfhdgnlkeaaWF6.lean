/- A law of chapter 13: Fit. -/
import Derived.Test.YtdjjkfhdgnlkeaaWN0
import Derived.Deep.RegionHeld3
import Derived.Test.YtdjjkfhdgnlkeaaWL0
import Derived.Test.YtdjjkfhdgnlkeaaRQ
import Derived.Test.YtdjjkfhdgnlkeaaIMD
import Derived.StillTailTactics
import Derived.Test.YtdjjkfhdgnlkeaaTD8
import Derived.Test.YtdjjkfhdgnlkeaaIV11
import Derived.Test.YtdjjkfhdgnlkeaaSB6
namespace Go.Proofs.Ytdjjkfhdgnlkeaa
open Go.RowKit
theorem IsR.atR {W : World} {v : Value} {x : Tb} (h : IsR W v x) {d i j : Nat} (hi : i < x.length) (hr : (x.getD i []).length = d) (hj : j < d) :
    ∃ (b o c b2 o2 c2 : Nat), v = .slice (some ⟨b, o, none⟩) x.length c ∧ b < W.heap.size ∧ W.cell? ⟨b, o + i, none⟩ = some (.slice (some ⟨b2, o2, none⟩) d c2) ∧ b2 < W.heap.size ∧ W.cell? ⟨b2, o2 + j, none⟩ = some (.int .i64 (cF x i j)) := by
  obtain ⟨A, c, hv, _, _, hl⟩ := h
  obtain ⟨b, o, A1, c1, hA, hb, f0, _, _, rx⟩ := hl.at_ i hi
  obtain ⟨b2, o2, hA2, hb2, f1⟩ := rx.int_ j (by rw [hr]; exact hj)
  subst hA hA2
  rw [hr] at f0
  exact ⟨b, o, c, b2, o2, c1, hv, hb, f0, hb2, f1⟩
theorem IsR.rect {W : World} {v : Value} {t : Tb} (h : IsR W v t) {d : Nat} (h1 : 0 < t.length) (hd : 0 < d) (hr : ∀ i, i < t.length → (t.getD i []).length = d) : ∃ (b o c : Nat) (rb ro rc : Nat → Nat), v = .slice (some ⟨b, o, none⟩) t.length c ∧ ∀ w', Below W.heap.size W w' →
    (∀ i, i < t.length → w'.cell? ⟨b, o + i, none⟩ = some (.slice (some ⟨rb i, ro i, none⟩) d (rc i))) ∧ ∀ i j, i < t.length → j < d → w'.cell? ⟨rb i, ro i + j, none⟩ = some (.int .i64 (cF t i j)) := by
  obtain ⟨b, o, c, _, _, _, hv, hb, _, _, _⟩ := h.atR (i := 0) (j := 0) h1 (hr 0 h1) hd
  have key : ∀ i, ∃ x : Nat × Nat × Nat, i < t.length → W.cell? ⟨b, o + i, none⟩ = some (.slice (some ⟨x.1, x.2.1, none⟩) d x.2.2) ∧ x.1 < W.heap.size ∧ ∀ j, j < d → W.cell? ⟨x.1, x.2.1 + j, none⟩ = some (.int .i64 (cF t i j)) := fun i => by
    by_cases hi : i < t.length
    · obtain ⟨b1, o1, c1, b2, o2, c2, hv1, _, e1, hb2, _⟩ := h.atR (j := 0) hi (hr i hi) hd
      rw [hv] at hv1
      injection hv1 with hv1 _ _
      injection hv1 with hv1
      injection hv1 with x1 x2 _
      subst x1 x2
      refine ⟨⟨b2, o2, c2⟩, fun _ => ⟨e1, hb2, fun j hj => ?_⟩⟩
      obtain ⟨b3, o3, c3, b4, o4, c4, hv3, _, e3, _, f3⟩ := h.atR (j := j) hi (hr i hi) hj
      rw [hv] at hv3
      injection hv3 with hv3 _ _
      injection hv3 with hv3
      injection hv3 with x1 x2 _
      subst x1 x2
      rw [e1] at e3
      injection e3 with e3
      injection e3 with e3 _ _
      injection e3 with e3
      injection e3 with x1 x2 _
      subst x1 x2
      exact f3
    · exact ⟨⟨0, 0, 0⟩, fun h => absurd h hi⟩
  obtain ⟨f, hf⟩ := Classical.axiomOfChoice key
  refine ⟨b, o, c, fun i => (f i).1, fun i => (f i).2.1, fun i => (f i).2.2, hv, fun w' hw' => ⟨fun i hi => ?_, fun i j hi hj => ?_⟩⟩
  · exact (hw'.cell (p := ⟨b, o + i, none⟩) hb).trans (hf i hi).1
  · exact (hw'.cell (p := ⟨(f i).1, (f i).2.1 + j, none⟩) (hf i hi).2.1).trans ((hf i hi).2.2 j hj)
theorem zero_sum : ∀ l : List Int, (∀ j, j < l.length → l.getD j 0 = 0) → l.sum = 0
  | [], _ => rfl
  | a :: l, h => by
    have h0 := h 0 (by simp)
    have h1 := zero_sum l fun j hj => by simpa using h (j + 1) (by simpa using hj)
    simp at h0
    simp [h0, h1]
/-- The two lists of sums: the rows' as they were, the columns' as they stand. -/
def Two (w : World) (B : Nat) (v u : Value) (r c : List Int) : Prop := Own1 TN w B v (icells r) ∧ Own1 TN w B u (icells c) ∧ (∀ k, v.ownBlock = some k → u.ownBlock ≠ some k) ∧ (∀ k, (v.ownBlock = some k ∨ u.ownBlock = some k) → k < w.heap.size)
theorem Two.below {w w' : World} {B : Nat} {v u : Value} {r c : List Int} (h : Two w B v u r c) (hb : Below w.heap.size w w') : Two w' B v u r c :=
  ⟨h.1.same fun k e => hb.block k (h.2.2.2 k (.inl e)), h.2.1.same fun k e => hb.block k (h.2.2.2 k (.inr e)), h.2.2.1, fun k e => Nat.lt_of_lt_of_le (h.2.2.2 k e) hb.size⟩
theorem Two.set {w : World} {B g n c : Nat} {v : Value} {r l : List Int} (h : Two w B v (.slice (some ⟨g, 0, none⟩) n c) r l) (j : Nat) (z : Int) : Two (w.setCell ⟨g, j, none⟩ (.int .i64 z)) B v (.slice (some ⟨g, 0, none⟩) n c) r (l.set j z) :=
  ⟨h.1.same fun k e => Below.heap_setCell w ⟨g, j, none⟩ _ k (fun e2 => h.2.2.1 k e (by rw [e2]; rfl)), by have := h.2.1.setAt j (.int .i64 z); rw [icells_set] at this; exact this, h.2.2.1, fun k e => by simpa [World.setCell] using h.2.2.2 k e⟩
set_option maxRecDepth 100000 in
set_option maxHeartbeats 40000000 in
theorem w_Fit (A : Option Addr) (n c : Nat) (hnc : n ≤ c) (hn : n ≤ maxLen) (w : World) (hb : Bytes w w.heap.size A n) :
    Calls Try.prog 3 #[.slice A n c] w fun e w' => e = .returned (.bool true) ∧ Below w.heap.size w w' := by
  have hn2 := hn
  unfold maxLen at hn2
  rcases (show 1048576 < n ∨ ¬ 1048576 < n by omega) with hbig | hbig
  · go_enter Try.func3, Try.ntmps3
    go_wp2
    go_ret
    exact ⟨rfl, Below.refl _ _⟩
  · go_enter Try.func3, Try.ntmps3
    go_wp2_with fail
    refine (dFit_any A n c hnc hn _ hb).mono ?_
    rintro e W ⟨tv, uv, xv, t, m, x, rfl, ht, hu, hx, hl, hlr, hml, hmr, hxl, hxr, hbW⟩
    have HT := Lib.hid ht
    have HU := Lib.hid hu
    have HX := Lib.hid hx
    have HBW := Lib.hid hbW
    obtain ⟨g, hg⟩ : ∃ g, fitB t m x = g := ⟨_, rfl⟩
    have HG := Lib.hid hg
    clear hb ht hu hx hbW hl hlr hml hmr hg hn hxl hxr
    go_wp2_with fail
    refine (iFit_is W t _ HT.out m _ HU.out x _ HX.out g HG.out _ (Below.refl _ _)).mono ?_
    rintro e w1 ⟨rfl, b1⟩
    go_wp2_with fail
    refine (sFit_is W t _ HT.out m _ HU.out x _ HX.out g HG.out _ b1).mono ?_
    rintro e w2 ⟨rfl, b2⟩
    cases g
    · go_wp2
      go_ret
      exact ⟨rfl, HBW.out.trans (b2.mono HBW.out.size)⟩
    have hf := fitB_iff.1 HG.out
    have HFP := Lib.hid hf
    obtain ⟨hmk, hxl, hxr, hff⟩ := hf
    obtain ⟨htb, hml, hmr⟩ := mk_parts.1 hmk
    have HMK := Lib.hid hmk
    have HTB := Lib.hid htb
    have HTK := Lib.hid (tab_iff.2 htb)
    have HML := Lib.hid (show m.length ≤ 1000 by have := htb.h4; omega)
    have HMR := Lib.hid (show ∀ r ∈ m, r.length ≤ 100000 from fun r hr => by have := hmr r hr; have := htb.w4; omega)
    have HMR2 := Lib.hid hmr
    have HM1 := Lib.hid (show 1 ≤ m.length by have := htb.h1; omega)
    have HTL := Lib.hid (show t.length ≤ 1000 by have := htb.h4; omega)
    have HTD := Lib.hid htb.len
    have HTD6 := Lib.hid (show wd t ≤ 1000 by have := htb.w4; omega)
    have HTR := Lib.hid (show ∀ r ∈ t, r.length ≤ 100000 from fun r hr => by have := htb.len r hr; have := htb.w4; omega)
    clear b1 hff
    have hln : ∀ k, k < t.length → (x.getD k []).length = wd t := fun k hk => hxr _ (by rw [getD_of _ _ (show k < x.length by rw [hxl]; exact hk)]; exact List.getElem_mem _)
    have HLN := Lib.hid hln
    have hxb : ∀ i j, i < t.length → j < wd t → 0 ≤ cF x i j ∧ cF x i j ≤ 396 := fun i j hi hj => ⟨HFP.out.2.2.2.pos i j hi hj, by
      have h1 := (m_fitBounds HFP.out hi hj).1
      have h2 := (hiI_bd hmk hi hj).2
      omega⟩
    have HXB := Lib.hid hxb
    have HOFF := Lib.hid HFP.out.2.2.2.off
    have HCOL := Lib.hid (show ∀ j, j < wd t → (csum t).getD j 0 = sm t.length (fun a => cF x a j) from fun j hj => by rw [cs_of hj]; exact (HFP.out.2.2.2.col j hj).symm)
    have HROW := Lib.hid (show ∀ i, i < t.length → (rsum t).getD i 0 = (x.getD i []).sum from fun i hi => by
      rw [rs_of htb hi, ← cF_row (HLN.out i hi)]; exact (HFP.out.2.2.2.row i hi).symm)
    have HSELF := Lib.hid (fitB_iff.2 (fitP_self hmk))
    obtain ⟨R0, hR0⟩ : ∃ r, rsum t = r := ⟨_, rfl⟩
    obtain ⟨C0, hC0⟩ : ∃ r, csum t = r := ⟨_, rfl⟩
    have HRL := Lib.hid (show R0.length = t.length by rw [← hR0, rsum_len])
    have HCL := Lib.hid (show C0.length = wd t by rw [← hC0, csum_len])
    have HRR := Lib.hid (show rsumI t = R0 by rw [rsumI, if_pos HTK.out]; exact hR0)
    have HCC := Lib.hid (show csumI t = C0 by rw [csumI, if_pos HTK.out]; exact hC0)
    have hcol := HCOL.out
    have hrow := HROW.out
    rw [hC0] at hcol
    rw [hR0] at hrow
    have HCOL2 := Lib.hid hcol
    have HROW2 := Lib.hid hrow
    clear HCOL HROW hcol hrow hR0 hC0
    go_wp2_with fail
    refine (iSums_is W t _ HT.out R0 C0 true HRR.out HCC.out HTK.out _ b2).mono ?_
    rintro e w3 ⟨v1, u1, rfl, ho1, ho2, hdj, h3⟩
    have HT2 := Lib.hid (HT.out.below b2)
    have HX2 := Lib.hid (HX.out.below b2)
    have HU2 := Lib.hid (HU.out.below b2)
    obtain ⟨bt, ot, ct, tb, tf, tc, htv, htall⟩ := HT2.out.all htb
    obtain ⟨bx, ox, cx, xb, xo, xc, hxv, hxall⟩ := HX2.out.rect (d := wd t) (by rw [hxl]; exact htb.h1) htb.w1 (fun i hi => hln i (by rw [← hxl]; exact hi))
    obtain ⟨bm, om, cm, mb, mo, mc, huv, hmall⟩ := HU2.out.all (d := wd t) (by have := htb.h1; omega) htb.w1 hmr
    rw [hxl] at hxv hxall
    rw [hml] at huv hmall
    subst htv hxv huv
    have ht1 := htb.h1
    have hw1 := htb.w1
    have ht4 := htb.h4
    have hw4 := htb.w4
    obtain ⟨q, hq⟩ : ∃ q, t.length = q := ⟨_, rfl⟩
    obtain ⟨d, hd⟩ : ∃ d, wd t = d := ⟨_, rfl⟩
    have HQ := Lib.hid hq
    have HD := Lib.hid hd
    rw [hq, hd] at htall hxall hmall
    have HTA := Lib.hid (show ∀ w', Below w2.heap.size w2 w' → w'.cell? ⟨bt, ot, none⟩ = some (.slice (some ⟨tb 0, tf 0, none⟩) d (tc 0)) ∧ (∀ i, i < q → w'.cell? ⟨bt, ot + i, none⟩ = some (.slice (some ⟨tb i, tf i, none⟩) d (tc i))) ∧ ∀ i j, i < q → j < d → w'.cell? ⟨tb i, tf i + j, none⟩ = some (.int .i64 (cF t i j)) from
      fun w' h => ⟨(htall w' h).1 0 (by omega), htall w' h⟩)
    have HXA := Lib.hid hxall
    have HUA := Lib.hid hmall
    obtain ⟨A1, c1, hv1, _, _, row1⟩ := ho1.is
    obtain ⟨A2, c2, hv2, _, _, row2⟩ := ho2.is
    rw [HRL.out, hq] at hv1
    rw [HCL.out, hd] at hv2
    have hgl : (icells R0).length = q := by rw [icells_len, HRL.out, hq]
    have hgl2 : (icells C0).length = d := by rw [icells_len, HCL.out, hd]
    obtain ⟨g1, e1, hv1'⟩ := ho1.2.1.slice (by rw [hgl]; omega)
    obtain ⟨g2, e2, hv2'⟩ := ho2.2.1.slice (by rw [hgl2]; omega)
    rw [hgl] at hv1'
    rw [hgl2] at hv2'
    subst hv1' hv2'
    have htwo : Two w3 w2.heap.size (.slice (some ⟨g1, 0, none⟩) q e1) (.slice (some ⟨g2, 0, none⟩) d e2) R0 C0 := ⟨ho1.2.1, ho2.2.1, hdj, fun k e => e.elim (fun e => Nat.lt_of_lt_of_le (ho1.2.2 k e) ho1.1) (fun e => Nat.lt_of_lt_of_le (ho2.2.2 k e) ho2.1)⟩
    have HTWO := Lib.hid htwo
    have HG2 := Lib.hid (show w2.heap.size ≤ g2 from (ho2.2.1.ob g2 rfl).1)
    have HB3 := Lib.hid h3
    have HBB := Lib.hid (show ∀ w', Below w2.heap.size w2 w' → Below w.heap.size w w' from fun w' h => HBW.out.trans ((below_step b2 h).mono HBW.out.size))
    have HCOL3 := Lib.hid (show ∀ j, j < d → C0.getD j 0 = sm q (fun a => cF x a j) from fun j hj => by rw [← HQ.out]; exact HCOL2.out j (by rw [HD.out]; exact hj))
    have HXL := Lib.hid hxl
    have HRQ := Lib.hid (hgl)
    have HXB2 := Lib.hid (show ∀ i j, i < q → j < d → 0 ≤ cF x i j ∧ cF x i j ≤ 396 from fun i j hi hj => HXB.out i j (by rw [HQ.out]; exact hi) (by rw [HD.out]; exact hj))
    have HTX2 := Lib.hid (show ∀ i j, i < q → j < d → hF m i j = false → cF x i j = cF t i j from fun i j hi hj e => HOFF.out i j (by rw [HQ.out]; exact hi) (by rw [HD.out]; exact hj) e)
    rw [hq] at HT2 HX2 HU2 ht1 ht4 ⊢
    rw [hd] at hw1 hw4
    clear htwo hv1 hv2 row1 row2 ho1 ho2 hdj h3 htall hxall hmall hmk htb hml hmr hxl hxr hq hd b2 hln hxb hgl hgl2
    go_wp2
    go_loopw [11] (fun i wr => ∃ (k : Nat) (cl : List Int), k ≤ q ∧ i = .int .i64 k ∧ Below w2.heap.size w2 wr ∧ Two wr w2.heap.size (.slice (some ⟨g1, 0, none⟩) q e1) (.slice (some ⟨g2, 0, none⟩) d e2) R0 cl ∧ cl.length = d ∧ (∀ j, j < d → cl.getD j 0 = sm q (fun a => cF x a j) - sm k (fun a => cF x a j))) (fun i _ => q - (intOf i).toNat)
    case atStart => exact ⟨0, C0, Nat.zero_le _, rfl, HB3.out, HTWO.out, by rw [HCL.out, HD.out], fun j hj => by rw [HCOL3.out j hj]; simp [sm]⟩
    case round =>
      obtain ⟨k, cl, hk, rfl, hb5, ht5, hl5, hc5⟩ := hrel
      have HB5 := Lib.hid hb5
      have HT5 := Lib.hid ht5
      have HL5 := Lib.hid hl5
      have HC5 := Lib.hid hc5
      by_cases hlt : k < q
      · have hki : (k : Int) < (q : Int) := by omega
        have r2 := (HXA.out _ hb5).1 k hlt
        have hkx : k < x.length := by rw [HXL.out, HQ.out]; exact hlt
        have HI := Lib.hid ((HX2.out.below hb5).rowI hkx r2)
        obtain ⟨S, hS⟩ : ∃ S, R0.getD k 0 = S := ⟨_, rfl⟩
        have HSS := Lib.hid (show (x.getD k []).sum = S by rw [← HROW2.out k (by rw [HQ.out]; exact hlt)]; exact hS)
        have c8 := (ht5.1.cellAt k (by rw [HRQ.out]; exact hlt)).1
        rw [icells_get (by rw [HRL.out, HQ.out]; exact hlt), hS] at c8
        have HLK := Lib.hid (show (x.getD k []).length = d by rw [HLN.out k (by rw [HQ.out]; exact hlt), HD.out])
        have HBK := Lib.hid (show ∀ y ∈ x.getD k [], 0 ≤ y ∧ y ≤ 1000000 from fun y hy => by
          obtain ⟨j, hj, rfl⟩ := List.mem_iff_getElem.1 hy
          have := HXB2.out k j hlt (by rw [← HLK.out]; exact hj)
          unfold cF at this
          rw [getD_of _ _ hj] at this
          omega)
        have L0 := Later.cell1 r2
        have L1 := Later.cell1 c8
        clear hb5 ht5 hl5 hc5 hS r2 c8
        go_wp2_with fail
        refine region_quiet_later (by kernel_rfl) (by kernel_rfl) ?_
        repeat (go_big_quiet_step (first
          | (go_at_call 13
             exact Later.back (lSum_is _ (x.getD k []) _ HI.out HBK.out (by rw [HLK.out]; omega) S HSS.out _ (Later.h _)) fun _ _ h => h)))
        refine wpQuiet_nil ?_
        rintro wz ⟨L, hL⟩
        have hwl : Below wr.heap.size wr wz := by rw [hL]; exact L.h
        clear hL L
        have HB6 := Lib.hid (below_step HB5.out hwl)
        have HT6 := Lib.hid (HT5.out.below hwl)
        clear L0 L1 hwl
        go_wp2
        go_loopw [12] (fun i wr' => ∃ (p : Nat) (cl : List Int), p ≤ d ∧ i = .int .i64 p ∧ Below w2.heap.size w2 wr' ∧ Two wr' w2.heap.size (.slice (some ⟨g1, 0, none⟩) q e1) (.slice (some ⟨g2, 0, none⟩) d e2) R0 cl ∧ cl.length = d ∧ (∀ j, j < d → cl.getD j 0 = sm q (fun a => cF x a j) - sm k (fun a => cF x a j) - (if j < p then cF x k j else 0))) (fun i _ => d - (intOf i).toNat)
        case atStart => exact ⟨0, cl, Nat.zero_le _, rfl, HB6.out, HT6.out, HL5.out, fun j hj => by rw [HC5.out j hj]; simp⟩
        case round =>
          clear HB5 HT5 HL5 HC5 HB6 HT6
          obtain ⟨p, cl, hp, rfl, hb6, ht6, hl6, hc6⟩ := hrel
          have HT6 := Lib.hid ht6
          have HL6 := Lib.hid hl6
          have HC6 := Lib.hid hc6
          have r1 := (HTA.out _ hb6).2.1 k hlt
          by_cases hpd : p < d
          · have hpi : (p : Int) < (d : Int) := by omega
            have r2 := (HXA.out _ hb6).1 k hlt
            have c2 := (HXA.out _ hb6).2 k p hlt hpd
            have hcx := HXB2.out k p hlt hpd
            have hsq := sm_bdC (fun a => cF x a p) 396 q (fun a ha => HXB2.out a p ha hpd)
            have hsk := sm_bdC (fun a => cF x a p) 396 k (fun a ha => HXB2.out a p (by omega) hpd)
            have hq4 : (396 : Int) * q ≤ 1584 := by omega
            have hk4 : (396 : Int) * k ≤ 1584 := by omega
            obtain ⟨v, hv⟩ : ∃ v, cF x k p = v := ⟨_, rfl⟩
            obtain ⟨E, hE⟩ : ∃ E, cl.getD p 0 = E := ⟨_, rfl⟩
            have hE2 := hc6 p hpd
            rw [if_neg (Nat.lt_irrefl p), hE] at hE2
            rw [hv] at c2 hcx
            have HV := Lib.hid hv
            have HE2 := Lib.hid hE2
            have hwz : IntKind.i64.wrap (E - v) = E - v := by rw [IntKind.wrap_i64] <;> omega
            obtain ⟨c9, f9⟩ := ht6.2.1.cellAt p (by rw [icells_len, hl6]; exact hpd)
            rw [icells_get (by rw [hl6]; exact hpd), hE] at c9
            obtain ⟨Y3, hY3⟩ : ∃ Y, wr.drew = Y := ⟨_, rfl⟩
            have c9Y : Y3.cell? ⟨g2, p, none⟩ = some (.int .i64 E) := by rw [← hY3]; exact c9
            have f9Y : Y3.frozen? ⟨g2, p, none⟩ = false := by rw [← hY3]; exact f9
            have hYB : Below wr.heap.size wr Y3 := by rw [← hY3]; exact (Below.refl _ _).drew
            obtain ⟨X, hX⟩ : ∃ X, X = Y3.setCell ⟨g2, p, none⟩ (.int .i64 (E - v)) := ⟨_, rfl⟩
            have HXE := Lib.hid hX.symm
            have hbX : Below w2.heap.size w2 X := by rw [hX]; exact (below_step hb6 hYB).setCell (p := ⟨g2, p, none⟩) HG2.out _
            have HTX := Lib.hid (show Two X w2.heap.size (.slice (some ⟨g1, 0, none⟩) q e1) (.slice (some ⟨g2, 0, none⟩) d e2) R0 (cl.set p (E - v)) by rw [hX]; exact (ht6.below hYB).set p (E - v))
            have HLX := Lib.hid (show (cl.set p (E - v)).length = d by rw [List.length_set]; exact hl6)
            have HCX := Lib.hid (show ∀ j, j < d → (cl.set p (E - v)).getD j 0 = sm q (fun a => cF x a j) - sm k (fun a => cF x a j) - (if j < p + 1 then cF x k j else 0) from fun j hj => by
              by_cases e : j = p
              · subst e
                rw [gds_eq _ _ _ (by rw [HL6.out]; exact hj), if_pos (by omega), HV.out, HE2.out]; omega
              · rw [gds_ne _ _ _ (fun h => e h.symm), HC6.out j hj]
                by_cases h1 : j < p
                · rw [if_pos h1, if_pos (by omega)]
                · rw [if_neg h1, if_neg (by omega)])
            have HY9 := Lib.hid hY3
            have HC9 := Lib.hid c9Y
            have HF9 := Lib.hid f9Y
            have HBX := Lib.hid hbX
            have s1 := (HTA.out _ hbX).2.1 k hlt
            have s2 := (HTA.out _ hbX).2.2 k p hlt hpd
            have s3 := (HXA.out _ hbX).1 k hlt
            have s4 := (HXA.out _ hbX).2 k p hlt hpd
            have s5 := (HUA.out _ hbX).1 k hlt
            have s6 := (HUA.out _ hbX).2 k p hlt hpd
            rw [HV.out] at s4
            obtain ⟨tv, htv⟩ : ∃ v, cF t k p = v := ⟨_, rfl⟩
            rw [htv] at s2
            obtain ⟨fl, hfl⟩ : ∃ f, hF m k p = f := ⟨_, rfl⟩
            rw [hfl] at s6
            have HFL := Lib.hid (show fl = false → tv = v from fun e => by rw [← htv, ← HV.out]; exact (HTX2.out k p hlt hpd (by rw [hfl, e])).symm)
            have L1 := Later.cell1 s1
            have L2 := Later.cell1 s2
            have L3 := Later.cell1 s3
            have L4 := Later.cell1 s4
            have L5 := Later.cell1 s5
            have L6 := Later.cell1 s6
            clear hv hE hE2 hsq hsk hq4 hk4 hcx hYB hX hbX c9Y f9Y hY3 ht6 hl6 hc6 hb6 htv hfl s1 s2 s3 s4 s5 s6
            go_wp2_with fail
            refine wp_region_still_tail 15 (by kernel_rfl) (by kernel_rfl) ?_
            simp only [List.take_succ_cons, List.take_zero, List.drop_succ_cons, List.drop_zero]
            repeat still_step
            try refine wpStill_nil ?_
            change wpList _ _ _ _ _ wr.drew
            rw [HY9.out]
            clear r1 r2 c2 c9 f9
            have c9 := HC9.out
            have f9 := HF9.out
            go_wp2_with fail
            rw [HXE.out]
            clear c9 f9
            cases fl
            · obtain rfl := HFL.out rfl
              go_wp2_with fail
              refine region_quiet_later (by kernel_rfl) (by kernel_rfl) ?_
              repeat (go_big_quiet_step (fail))
              refine wpQuiet_nil ?_
              rintro wz ⟨L, hL⟩
              have hwl : Below X.heap.size X wz := by rw [hL]; exact L.h
              clear hL L
              have HFN := Lib.hid (show Below w2.heap.size w2 wz ∧ _ from ⟨below_step HBX.out hwl, HTX.out.below hwl⟩)
              clear L1 L2 L3 L4 L5 L6 hwl
              go_wp2
              go_roundw
              case rel => exact ⟨p + 1, _, by omega, by go_num, HFN.out.1, HFN.out.2, HLX.out, HCX.out⟩
              case measure => simp [intOf]; omega
            · skip
              go_wp2_with fail
              refine region_quiet_later (by kernel_rfl) (by kernel_rfl) ?_
              repeat (go_big_quiet_step (fail))
              refine wpQuiet_nil ?_
              rintro wz ⟨L, hL⟩
              have hwl : Below X.heap.size X wz := by rw [hL]; exact L.h
              clear hL L
              have HFN := Lib.hid (show Below w2.heap.size w2 wz ∧ _ from ⟨below_step HBX.out hwl, HTX.out.below hwl⟩)
              clear L1 L2 L3 L4 L5 L6 hwl
              go_wp2
              go_roundw
              case rel => exact ⟨p + 1, _, by omega, by go_num, HFN.out.1, HFN.out.2, HLX.out, HCX.out⟩
              case measure => simp [intOf]; omega
          · obtain rfl : d = p := by omega
            clear ht6 hl6 hc6
            have HB6 := Lib.hid hb6
            clear hb6
            go_wp2
            go_roundw
            case rel => exact ⟨k + 1, cl, by omega, by go_num, HB6.out, HT6.out, HL6.out, fun j hj => by
              rw [HC6.out j hj, if_pos hj]
              have : sm (k + 1) (fun a => cF x a j) = sm k (fun a => cF x a j) + cF x k j := rfl
              omega⟩
            case measure => simp [intOf]; omega
      · obtain rfl : q = k := by omega
        have HCI := Lib.hid (show IsI wr (.slice (some ⟨g2, 0, none⟩) d e2) cl from by
          obtain ⟨A, c, hv, h1, h2, h3, _⟩ := ht5.2.1.form
          rw [icells_len] at hv h1
          exact ⟨A, c, hv, h1, h2, h3⟩)
        have hz : ∀ j, j < cl.length → cl.getD j 0 = 0 := fun j hj => by rw [hc5 j (by rw [← hl5]; exact hj)]; omega
        have HSZ := Lib.hid (zero_sum cl hz)
        have HBZ := Lib.hid (show ∀ y ∈ cl, 0 ≤ y ∧ y ≤ 1000000 from fun y hy => by
          obtain ⟨j, hj, rfl⟩ := List.mem_iff_getElem.1 hy
          have := hz j hj
          rw [getD_of _ _ hj] at this
          omega)
        clear hb5 ht5 hl5 hc5 hz
        go_wp2_with fail
        refine (lSum_is _ cl _ HCI.out HBZ.out (by rw [HL5.out]; omega) 0 HSZ.out _ (Below.refl _ _)).mono ?_
        rintro e x1 ⟨rfl, z1⟩
        have HZ1 := Lib.hid (below_step HB5.out z1)
        go_wp2_with fail
        refine (iFit_is w2 t _ HT2.out m _ HU2.out t _ HT2.out true HSELF.out _ HZ1.out).mono ?_
        rintro e x2 ⟨rfl, z2⟩
        go_wp2
        all_goals
          go_ret
          exact ⟨by first | rfl | exact retb (by simp), HBB.out _ z2⟩
end Go.Proofs.Ytdjjkfhdgnlkeaa
