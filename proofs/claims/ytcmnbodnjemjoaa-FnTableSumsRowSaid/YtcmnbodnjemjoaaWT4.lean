/- Laws of chapter 11 on the sums of a row. -/
import Derived.Test.YtcmnbodnjemjoaaTI
import Derived.Test.YtcmnbodnjemjoaaTL4
import Derived.Test.YtcmnbodnjemjoaaTD5
import Derived.Test.YtcmnbodnjemjoaaA2
import Derived.Test.YtcmnbodnjemjoaaWT3
import Derived.Test.YtcmnbodnjemjoaaA4
namespace Go.Proofs.Ytcmnbodnjemjoaa
open Go.RowKit
set_option maxHeartbeats 4000000 in
theorem w_TableSumsRow (A : Option Addr) (n c : Nat) (hnc : n ≤ c) (hn : n ≤ maxLen) (A2 : Option Addr) (m c2 : Nat) (_hmc : m ≤ c2) (hm : m ≤ maxLen) (w : World) (hb : Bytes w w.heap.size A n) (_hb2 : Bytes w w.heap.size A2 m) :
    Calls Try.prog 5 #[.slice A n c, .slice A2 m c2] w fun e w' => e = .returned (.bool true) ∧ Below w.heap.size w w' := by
  have hn2 := hn
  have hm2 := hm
  unfold maxLen at hn2 hm2
  rcases (show 1048576 < n ∨ (¬ 1048576 < n ∧ 1048576 < m) ∨ ¬ 1048576 < n ∧ ¬ 1048576 < m by omega) with hbig | ⟨hbig, hbig2⟩ | ⟨hbig, hbig2⟩
  · go_enter Try.func5, Try.ntmps5
    go_wp2
    go_ret
    exact ⟨rfl, Below.refl _ _⟩
  · go_enter Try.func5, Try.ntmps5
    go_wp2
    go_ret
    exact ⟨rfl, Below.refl _ _⟩
  · go_enter Try.func5, Try.ntmps5
    go_wp2_with fail
    refine (dTabSums_any A n c hnc hn _ hb).mono ?_
    rintro e W ⟨v, t, rfl, hv, hl, hlr, hbW⟩
    have HV := Lib.hid hv
    obtain ⟨g, hg⟩ : ∃ g, tabOk t = g := ⟨_, rfl⟩
    have HG := Lib.hid hg
    obtain ⟨r, hr⟩ : ∃ r, rsumI t = r := ⟨_, rfl⟩
    obtain ⟨s, hs⟩ : ∃ s, csumI t = s := ⟨_, rfl⟩
    have HR := Lib.hid hr
    have HS := Lib.hid hs
    clear hv hlr hg hr hs
    go_wp2_with fail
    refine (iSums_is W t _ HV.out r s g HR.out HS.out HG.out _ (Below.refl _ _)).mono ?_
    rintro e w1 ⟨v1, u1, rfl, ho1, ho1', _, b1⟩
    have HVa := Lib.hid (HV.out.below b1)
    go_wp2_with fail
    refine (sSums_is w1 t _ HVa.out r s g HR.out HS.out HG.out _ (Below.refl _ _)).mono ?_
    rintro e w2 ⟨v2, u2, rfl, ho2, ho2', _, b2⟩
    have H1 := Lib.hid ((ho1.below b2).is)
    have H1' := Lib.hid ((ho1'.below b2).is)
    have H2 := Lib.hid ho2.is
    have H2' := Lib.hid ho2'.is
    have HVb := Lib.hid (HVa.out.below b2)
    have HB := Lib.hid (hbW.trans ((b1.trans (b2.mono b1.size)).mono hbW.size))
    clear ho1 ho2 ho1' ho2' b1 b2 HVa HV hbW
    go_wp2_with fail
    refine (lInts_is w2 r v1 H1.out v2 H2.out _ (Below.refl _ _)).mono ?_
    rintro e w3 ⟨rfl, b3⟩
    go_wp2_with fail
    refine (lInts_is w2 s u1 H1'.out u2 H2'.out _ b3).mono ?_
    rintro e w4 ⟨rfl, b4⟩
    cases g
    · go_wp2_with fail
      refine (lInts_is w2 r v1 H1.out v2 H2.out _ b4).mono ?_
      rintro e w5 ⟨rfl, b5⟩
      go_wp2_with fail
      refine (lInts_is w2 s u1 H1'.out u2 H2'.out _ b5).mono ?_
      rintro e w6 ⟨rfl, b6⟩
      go_wp2
      go_ret
      exact ⟨rfl, HB.out.trans (b6.mono HB.out.size)⟩
    · have ht := tab_iff.1 HG.out
      have hr : r = rsum t := by rw [← HR.out, rsumI, if_pos HG.out]
      have hs : s = csum t := by rw [← HS.out, csumI, if_pos HG.out]
      have hl1 := ht.h1
      obtain ⟨k, hk, hkl⟩ := modN m t.length hl1
      have HK := Lib.hid hk
      have ht2 := tab_turn ht
      have HG2 := Lib.hid (tab_iff.2 ht2)
      have HM2 := Lib.hid (show turnI t = turn t by rw [turnI, if_pos HG.out])
      have HR2 := Lib.hid (show rsumI (turn t) = s by rw [rsumI, if_pos HG2.out, rsum_turn, hs])
      have HS2 := Lib.hid (show csumI (turn t) = r by rw [csumI, if_pos HG2.out, csum_turn ht.len ht.w1, hr])
      have hrk : r.getD k 0 = (t.getD k []).sum := by
        rw [hr, getD_of _ _ (by rw [rsum_len]; exact hkl), getD_of _ _ hkl]; simp [rsum]
      have hln := tab_lens HG.out hkl
      have HB3 := Lib.hid (show ∀ y ∈ t.getD k [], 0 ≤ y ∧ y ≤ 1000000 from fun y hy => by
        have := ht.bd (t.getD k []) (by rw [getD_of _ _ hkl]; exact List.getElem_mem _) y hy; omega)
      have hrl : r.length = t.length := by rw [hr, rsum_len]
      have hwd4 := ht.w4
      obtain ⟨q, hq⟩ : ∃ q, q = t.length := ⟨_, rfl⟩
      have HQ := Lib.hid hq
      obtain ⟨A1, c1, hv1, _, _, hr1⟩ := H1.out
      obtain ⟨A0, c0, hv0, _, _, hr0⟩ := HVb.out
      rw [hrl, ← hq] at hv1
      rw [← hq] at hv0 hk
      subst hv1 hv0
      have hq1 : 1 ≤ q := by omega
      have hq4 : q ≤ 4 := by have := ht.h4; omega
      have hkq : k < q := by omega
      have HLL := Lib.hid hr0
      have HRW := Lib.hid hr1
      have hqn : ¬ (q : Int) = 0 := by omega
      have HKL := Lib.hid hkl
      have HKR := Lib.hid (show k < r.length by rw [hrl]; exact hkl)
      have HLN := Lib.hid hln
      have HRK := Lib.hid hrk
      have HW4 := Lib.hid hwd4
      have HKQ := Lib.hid hk
      clear hr0 hr1 hr hs ht ht2 hrk hln hrl hq hkl hl1 hk hwd4
      go_wp2_with fail
      rw [HKQ.out]
      refine (iTurn_is w2 t _ HVb.out (turn t) true HM2.out HG.out _ b4).mono ?_
      rintro e w5 ⟨u, rfl, hou, h5⟩
      have b5 : Below w2.heap.size w2 w5 := b4.trans (h5.mono b4.size)
      have HU := Lib.hid hou.is
      clear hou h5
      go_wp2_with fail
      refine (iSums_is w5 (turn t) u HU.out s r true HR2.out HS2.out HG2.out _ (Below.refl _ _)).mono ?_
      rintro e w6 ⟨v3, u3, rfl, ho3, ho3', _, h6⟩
      have b6 : Below w2.heap.size w2 w6 := b5.trans (h6.mono b5.size)
      have X3 := Lib.hid ho3.is
      have X3' := Lib.hid ho3'.is
      have X1 := Lib.hid (H1.out.below b6)
      have X1' := Lib.hid (H1'.out.below b6)
      obtain ⟨b, o, Ak, ck, hA, hb0, e0, hlc, hcm, rk⟩ := (HLL.out.moved b6).at_ k HKL.out
      subst hA
      obtain ⟨b1, o1, hA1, hb1, e1⟩ := (HRW.out.below b6 (Nat.le_refl _)).int_ k HKR.out
      subst hA1
      have XK := Lib.hid (show IsI w6 (.slice Ak (t.getD k []).length ck) (t.getD k []) from ⟨Ak, ck, rfl, hlc, hcm, rk⟩)
      obtain ⟨z, hz⟩ : ∃ z, r.getD k 0 = z := ⟨_, rfl⟩
      have HZ := Lib.hid (show (t.getD k []).sum = z by rw [← hz, HRK.out])
      rw [hz] at e1
      rw [HLN.out] at e0
      have HXK := Lib.hid (show IsI w6 (.slice Ak (wd t) ck) (t.getD k []) by have := XK.out; rw [HLN.out] at this; exact this)
      have HL3 := Lib.hid (show (t.getD k []).length ≤ 1000 by rw [HLN.out]; have := HW4.out; omega)
      have hbb : b1 < w6.heap.size := Nat.lt_of_lt_of_le hb1 b6.size
      have HF := Lib.hid (show ∀ w', Below w6.heap.size w6 w' → (Below w6.heap.size w6 w' ∧ w'.cell? ⟨b, o + k, none⟩ = some (.slice Ak (wd t) ck) ∧ w'.cell? ⟨b1, o1 + k, none⟩ = some (.int .i64 z)) from
        fun w' h => ⟨h, (h.cell (p := ⟨b, o + k, none⟩) hb0).trans e0, (h.cell (p := ⟨b1, o1 + k, none⟩) hbb).trans e1⟩)
      have bd : Below w6.heap.size w6 w6.drew := (Below.refl _ _).drew
      have hki : (k : Int) < (q : Int) := by omega
      obtain ⟨dd, hdd⟩ : ∃ dd, wd t = dd := ⟨_, rfl⟩
      rw [hdd] at HF HXK
      clear e0 e1 hb0 hb1 hlc hcm rk XK hz hbb ho3 ho3' h6 hdd
      go_wp2
      go_region_held3 (fun w' => Below w6.heap.size w6 w' ∧ w'.cell? ⟨b, o + k, none⟩ = some (.slice Ak dd ck) ∧ w'.cell? ⟨b1, o1 + k, none⟩ = some (.int .i64 z))
        (first | exact HF.out _ (by assumption) | exact HF.out _ bd)
        (first
          | (go_at_call 22; (with_reducible refine (lSum_is w6 (t.getD k []) _ HXK.out HB3.out HL3.out z HZ.out _ ?_).mono ?_); (first | assumption | exact bd); rintro e w7 ⟨rfl, h7⟩)
          | (go_at_call 21; (with_reducible refine (lInts_is w6 s _ X3.out _ X1'.out _ ?_).mono ?_); (first | assumption | exact bd); rintro e w8 ⟨rfl, h8⟩)
          | (go_at_call 21; (with_reducible refine (lInts_is w6 r _ X3'.out _ X1.out _ ?_).mono ?_); (first | assumption | exact bd); rintro e w9 ⟨rfl, h9⟩))
      go_wp2
      go_ret
      exact ⟨rfl, HB.out.trans ((b6.trans (Below.mono (by assumption) b6.size)).mono HB.out.size)⟩
end Go.Proofs.Ytcmnbodnjemjoaa
