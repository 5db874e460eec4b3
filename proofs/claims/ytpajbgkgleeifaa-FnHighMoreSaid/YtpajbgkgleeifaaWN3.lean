/- A law of chapter 13: HighMore. -/
import Derived.Test.YtpajbgkgleeifaaWN0
import Derived.Deep.RegionHeld3
namespace Go.Proofs.Ytpajbgkgleeifaa
open Go.RowKit
set_option maxRecDepth 100000 in
set_option maxHeartbeats 4000000 in
theorem w_HighMore (A : Option Addr) (n c : Nat) (hnc : n ≤ c) (hn : n ≤ maxLen) (A2 : Option Addr) (n2 c2 : Nat) (_hmc : n2 ≤ c2) (hm : n2 ≤ maxLen) (w : World) (hb : Bytes w w.heap.size A n) (_hb2 : Bytes w w.heap.size A2 n2) :
    Calls Try.prog 8 #[.slice A n c, .slice A2 n2 c2] w fun e w' => e = .returned (.bool true) ∧ Below w.heap.size w w' := by
  have hn2 := hn
  have hm2 := hm
  unfold maxLen at hn2 hm2
  rcases (show 1048576 < n ∨ (¬ 1048576 < n ∧ 1048576 < n2) ∨ ¬ 1048576 < n ∧ ¬ 1048576 < n2 by omega) with hbig | ⟨hbig, hbig2⟩ | ⟨hbig, hbig2⟩
  · go_enter Try.func8, Try.ntmps8
    go_wp2
    go_ret
    exact ⟨rfl, Below.refl _ _⟩
  · go_enter Try.func8, Try.ntmps8
    go_wp2
    go_ret
    exact ⟨rfl, Below.refl _ _⟩
  · go_enter Try.func8, Try.ntmps8
    go_wp2_with fail
    refine (dBoundHigh_any A n c hnc hn _ hb).mono ?_
    rintro e W ⟨tv, uv, t, m, i, j, rfl, ht, hu, hl, hlr, hml, hmr, hbW⟩
    have HT := Lib.hid ht
    have HU := Lib.hid hu
    have HBW := Lib.hid hbW
    obtain ⟨g, hg⟩ : ∃ g, hiI t m i j = g := ⟨_, rfl⟩
    have HG := Lib.hid hg
    clear hb ht hu hbW hl hlr hml hmr hg hn
    go_wp2_with fail
    refine (iHigh_is W t _ HT.out m _ HU.out i j g HG.out _ (Below.refl _ _)).mono ?_
    rintro e w1 ⟨rfl, b1⟩
    go_wp2_with fail
    refine (sHigh_is W t _ HT.out m _ HU.out i j g HG.out _ b1).mono ?_
    rintro e w2 ⟨rfl, b2⟩
    by_cases hneg : g < 0
    · go_wp2
      go_ret
      exact ⟨rfl, HBW.out.trans (b2.mono HBW.out.size)⟩
    have hok : bOk t m i j = true := by
      cases e : bOk t m i j
      · exfalso; have h9 := HG.out; rw [hiI, if_neg (by simp [e])] at h9; omega
      · rfl
    obtain ⟨hmk, hi0, hiq, hj0, hjd⟩ := bOk_iff.1 hok
    obtain ⟨a, rfl⟩ := Int.eq_ofNat_of_zero_le hi0
    obtain ⟨b, rfl⟩ := Int.eq_ofNat_of_zero_le hj0
    obtain ⟨htb, hml, hmr⟩ := mk_parts.1 hmk
    have haq : a < t.length := by omega
    have hbd : b < wd t := by omega
    have HMK := Lib.hid hmk
    have HTB := Lib.hid htb
    have HAQ := Lib.hid haq
    have HBD := Lib.hid hbd
    have HML := Lib.hid (show m.length ≤ 1000 by have := htb.h4; omega)
    have HMR := Lib.hid (show ∀ r ∈ m, r.length ≤ 100000 from fun r hr => by have := hmr r hr; have := htb.w4; omega)
    have HTL := Lib.hid (show t.length ≤ 1000 by have := htb.h4; omega)
    have HTD := Lib.hid htb.len
    have HTD6 := Lib.hid (show wd t ≤ 1000 by have := htb.w4; omega)
    have HTR := Lib.hid (show ∀ r ∈ t, r.length ≤ 100000 from fun r hr => by have := htb.len r hr; have := htb.w4; omega)
    clear hok hi0 hj0 b1
    have ht1 := htb.h1
    have ht4 := htb.h4
    have hw1 := htb.w1
    have hw4 := htb.w4
    obtain ⟨k, l, hk, hkq, hl, hl2, hld⟩ := modTwo n2 t.length (wd t) (by assumption) ht1 hw1
    obtain ⟨At, ct, htv, htc, htm, hrt⟩ := HT.out.below b2
    obtain ⟨bt, ot, A0, c0, hAt, hbt, e0, _, _, _⟩ := hrt.at_ 0 ht1
    have hw0 : (t.getD 0 []).length = wd t := htb.len _ (by rw [getD_of _ _ ht1]; exact List.getElem_mem _)
    rw [hw0] at e0
    subst hAt htv
    have HT2 := Lib.hid (HT.out.below b2)
    have HU2 := Lib.hid (HU.out.below b2)
    clear hrt
    obtain ⟨q, hq⟩ : ∃ q, t.length = q := ⟨_, rfl⟩
    obtain ⟨d, hd⟩ : ∃ d, wd t = d := ⟨_, rfl⟩
    have HQ := Lib.hid hq
    have HD := Lib.hid hd
    rw [hq] at HT2 ht1 ht4 haq ⊢
    rw [hd] at e0 hw1 hw4 hbd
    have hq0i : (0 : Int) < (q : Int) := by omega
    have hq0 : 0 < q := ht1
    rw [Nat.add_zero] at e0
    rw [hq] at hk hl hl2 hkq hiq
    rw [hd] at hl hl2 hld hjd
    have HKM := Lib.hid hk
    have HLM := Lib.hid hl2
    clear hk hl hl2
    have hki : (k : Int) < (q : Int) := by omega
    have hli : (l : Int) < (d : Int) := by omega
    have hqn : ¬ q = 0 := Nat.ne_of_gt ht1
    have hdn : ¬ d = 0 := Nat.ne_of_gt hw1
    obtain ⟨g2, hg2⟩ : ∃ g, loI t m a b = g := ⟨_, rfl⟩
    have HG2 := Lib.hid hg2
    have hmq : m.length = q := by rw [hml, hq]
    have hml' : ∀ k, k < m.length → (m.getD k []).length = d := fun k hk => by rw [hmr _ (by rw [getD_of _ _ hk]; exact List.getElem_mem hk), hd]
    have HMQ := Lib.hid hmq
    have HMD := Lib.hid hml'
    clear hq hd hw0 htc htm hg2 htb hml hmr hmk hmq hml'
    have bd : Below w2.heap.size w2 w2.drew := (Below.refl _ _).drew
    go_wp2_with fail
    go_region_held3 (fun w' => w'.cell? ⟨bt, ot, none⟩ = some (.slice A0 d c0)) (first | assumption | exact e0) (fail)
    rw [HKM.out, HLM.out]
    go_wp2_with fail
    refine (lCopyM_is w2 m _ HU2.out HML.out HMR.out _ bd).mono ?_
    rintro e w3 ⟨v3, rfl, ho3, h3⟩
    obtain ⟨g5, c5, gi, ci, hv5, f5, ⟨hgB, hgT⟩, ⟨hgi, hgiT⟩, hgg, f6, hfz, hset⟩ := ho3.cell (i := k) (j := l) (by rw [HMQ.out]; exact hkq) (by rw [HMD.out k (by rw [HMQ.out]; exact hkq)]; exact hld)
    rw [HMD.out k (by rw [HMQ.out]; exact hkq)] at f5
    rw [HMQ.out] at hv5
    subst hv5
    obtain ⟨m', hm'⟩ : ∃ m', m.set k ((m.getD k []).set l true) = m' := ⟨_, rfl⟩
    have hok' : mkOk t m' = true := by rw [← hm']; exact mk_setM HMK.out true (by rw [HQ.out]; exact hkq) (by rw [HD.out]; exact hld)
    have hmo := m_highMore HMK.out hok' (fun a' b' _ _ h => by
      rw [← hm', hF_setB m true (by rw [HMQ.out]; exact hkq) (by rw [HMD.out k (by rw [HMQ.out]; exact hkq)]; exact hld)]; split
      · rfl
      · exact h) HAQ.out HBD.out
    obtain ⟨g3, hg3⟩ : ∃ g, hiI t m' a b = g := ⟨_, rfl⟩
    obtain ⟨g4, hg4⟩ : ∃ g, loI t m' a b = g := ⟨_, rfl⟩
    rw [hg3, hg4, HG.out, HG2.out] at hmo
    have HG3 := Lib.hid hg3
    have HG4 := Lib.hid hg4
    have b3 := below_step b2 (below_step bd h3)
    have hs4 : Below w2.heap.size w2 (w3.setCell ⟨gi, l, none⟩ (.bool true)) := (below_step bd h3).setCell (p := ⟨gi, l, none⟩) hgi _
    have hx4 := (hset true).is
    rw [hm'] at hx4
    have HX4 := Lib.hid hx4
    have HT4 := Lib.hid (HT2.out.below hs4)
    have HU4 := Lib.hid (HU2.out.below hs4)
    have HB4 := Lib.hid (below_step b2 hs4)
    clear hset hx4 hg3 hg4 hm' ho3 h3 b3 hok' HKM HLM hs4 e0 bd
    obtain ⟨hmo1, hmo2⟩ := hmo
    have HBB := Lib.hid (show ∀ w', Below (w3.setCell ⟨gi, l, none⟩ (.bool true)).heap.size (w3.setCell ⟨gi, l, none⟩ (.bool true)) w' → Below w.heap.size w w' from fun w' h => HBW.out.trans ((below_step HB4.out h).mono HBW.out.size))
    go_wp2_with fail
    refine (iHigh_is (w3.setCell ⟨gi, l, none⟩ (.bool true)) t _ HT4.out m' _ HX4.out a b g3 HG3.out _ (Below.refl _ _)).mono ?_
    rintro e x0 ⟨rfl, y0⟩
    go_wp2_with fail
    refine (iLow_is (w3.setCell ⟨gi, l, none⟩ (.bool true)) t _ HT4.out m' _ HX4.out a b g4 HG4.out _ y0).mono ?_
    rintro e x1 ⟨rfl, y1⟩
    go_wp2_with fail
    refine (iLow_is (w3.setCell ⟨gi, l, none⟩ (.bool true)) t _ HT4.out m _ HU4.out a b g2 HG2.out _ y1).mono ?_
    rintro e x2 ⟨rfl, y2⟩
    go_wp2
    go_ret
    exact ⟨by first | rfl | exact retb (by simp) | exact retb (by simp; omega), HBB.out _ y2⟩
end Go.Proofs.Ytpajbgkgleeifaa
