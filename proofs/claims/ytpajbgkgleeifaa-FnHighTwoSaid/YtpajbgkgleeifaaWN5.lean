/- A law of chapter 13: HighTwo. -/
import Derived.Test.YtpajbgkgleeifaaWN0
import Derived.Deep.RegionHeld3
namespace Go.Proofs.Ytpajbgkgleeifaa
open Go.RowKit
set_option maxRecDepth 100000 in
set_option maxHeartbeats 4000000 in
theorem w_HighTwo (A : Option Addr) (n c : Nat) (hnc : n ≤ c) (hn : n ≤ maxLen) (w : World) (hb : Bytes w w.heap.size A n) :
    Calls Try.prog 9 #[.slice A n c] w fun e w' => e = .returned (.bool true) ∧ Below w.heap.size w w' := by
  have hn2 := hn
  unfold maxLen at hn2
  rcases (show 1048576 < n ∨ ¬ 1048576 < n by omega) with hbig | hbig
  · go_enter Try.func9, Try.ntmps9
    go_wp2
    go_ret
    exact ⟨rfl, Below.refl _ _⟩
  · go_enter Try.func9, Try.ntmps9
    go_wp2_with fail
    refine (dBoundHigh_any A n c hnc hn _ hb).mono ?_
    rintro e W ⟨tv, uv, t, m, i, j, rfl, ht, hu, hl, hlr, hml, hmr, hbW⟩
    have HT := Lib.hid ht
    have HU := Lib.hid hu
    have HBW := Lib.hid hbW
    obtain ⟨g, hg⟩ : ∃ g, hiI t m i j = g := ⟨_, rfl⟩
    have HG := Lib.hid hg
    clear hb ht hu hbW hl hlr hml hmr hg hn
    go_wp2_with fail
    refine (iHigh_is W t _ HT.out m _ HU.out i j g HG.out _ (Below.refl _ _)).mono ?_
    rintro e w1 ⟨rfl, b1⟩
    go_wp2_with fail
    refine (sHigh_is W t _ HT.out m _ HU.out i j g HG.out _ b1).mono ?_
    rintro e w2 ⟨rfl, b2⟩
    by_cases hneg : g < 0
    · go_wp2
      go_ret
      exact ⟨rfl, HBW.out.trans (b2.mono HBW.out.size)⟩
    have hok : bOk t m i j = true := by
      cases e : bOk t m i j
      · exfalso; have h9 := HG.out; rw [hiI, if_neg (by simp [e])] at h9; omega
      · rfl
    obtain ⟨hmk, hi0, hiq, hj0, hjd⟩ := bOk_iff.1 hok
    obtain ⟨a, rfl⟩ := Int.eq_ofNat_of_zero_le hi0
    obtain ⟨b, rfl⟩ := Int.eq_ofNat_of_zero_le hj0
    obtain ⟨htb, hml, hmr⟩ := mk_parts.1 hmk
    have haq : a < t.length := by omega
    have hbd : b < wd t := by omega
    have HMK := Lib.hid hmk
    have HTB := Lib.hid htb
    have HAQ := Lib.hid haq
    have HBD := Lib.hid hbd
    have HML := Lib.hid (show m.length ≤ 1000 by have := htb.h4; omega)
    have HMR := Lib.hid (show ∀ r ∈ m, r.length ≤ 100000 from fun r hr => by have := hmr r hr; have := htb.w4; omega)
    have HTL := Lib.hid (show t.length ≤ 1000 by have := htb.h4; omega)
    have HTD := Lib.hid htb.len
    have HTD6 := Lib.hid (show wd t ≤ 1000 by have := htb.w4; omega)
    have HTR := Lib.hid (show ∀ r ∈ t, r.length ≤ 100000 from fun r hr => by have := htb.len r hr; have := htb.w4; omega)
    clear hok hi0 hj0 b1
    have ht1 := htb.h1
    have ht4 := htb.h4
    have hw1 := htb.w1
    have hw4 := htb.w4
    have hge := (hi_ge hmk haq hbd).1
    rw [HG.out] at hge
    have HT2 := Lib.hid (HT.out.below b2)
    obtain ⟨bt, ot, ct, rb, ro, rc, htv, hall⟩ := HT2.out.all htb
    obtain ⟨hR, hC⟩ := hall w2 (Below.refl _ _)
    have e0 := hR 0 ht1
    have ea := hR a haq
    rw [Nat.add_zero] at e0
    obtain ⟨p, hp⟩ : ∃ p, cF t a b = p := ⟨_, rfl⟩
    have ec := hC a b haq hbd
    rw [hp] at ec hge
    have HALL := Lib.hid hall
    subst htv
    obtain ⟨q, hq⟩ : ∃ q, t.length = q := ⟨_, rfl⟩
    obtain ⟨d, hd⟩ : ∃ d, wd t = d := ⟨_, rfl⟩
    have HQ := Lib.hid hq
    have HD := Lib.hid hd
    have HP := Lib.hid hp
    rw [hq] at HT2 hiq ht1 ht4 haq ⊢
    rw [hd] at e0 ea hw1 hw4 hbd hjd
    have hq0i : (0 : Int) < (q : Int) := by omega
    clear hR hC hall hp hmk hml hmr htb
    by_cases hq2 : ¬ q = 2
    · have hq2' : ¬ (q : Int) = 2 := by omega
      go_wp2
      go_ret
      exact ⟨by first | rfl | exact retb (by simp; omega), HBW.out.trans (b2.mono HBW.out.size)⟩
    have hq2 : q = 2 := by omega
    subst hq2
    by_cases hd2 : ¬ d = 2
    · have hd2' : ¬ (d : Int) = 2 := by omega
      go_wp2
      go_ret
      exact ⟨by first | rfl | exact retb (by simp; omega), HBW.out.trans (b2.mono HBW.out.size)⟩
    have hd2 : d = 2 := by omega
    subst hd2
    have h2m := m_highTwo HTB.out HQ.out HD.out haq hbd
    obtain ⟨hR, hC⟩ := HALL.out w2 (Below.refl _ _)
    obtain ⟨a', ha'⟩ : ∃ x, 1 - a = x := ⟨_, rfl⟩
    obtain ⟨b', hb'⟩ : ∃ x, 1 - b = x := ⟨_, rfl⟩
    rw [ha', hb'] at h2m
    have ha2 : a' < 2 := by omega
    have hb2 : b' < 2 := by omega
    have ha2i : (a' : Int) < ((2 : Nat) : Int) := by omega
    have hb2i : (b' : Int) < ((2 : Nat) : Int) := by omega
    have hwa : IntKind.i64.wrap (1 - (a : Int)) = (a' : Int) := by rw [IntKind.wrap_i64]; omega
    have hwb : IntKind.i64.wrap (1 - (b : Int)) = (b' : Int) := by rw [IntKind.wrap_i64]; omega
    have hbd1 := HTB.out.cell (k := a) (l := b') HAQ.out (by rw [HD.out]; exact hb2)
    have hbd2 := HTB.out.cell (k := a') (l := b) (by rw [HQ.out]; exact ha2) HBD.out
    have hbd3 := HTB.out.cell (k := a') (l := b') (by rw [HQ.out]; exact ha2) (by rw [HD.out]; exact hb2)
    have hbd0 := HTB.out.cell HAQ.out HBD.out
    obtain ⟨p1, hp1⟩ : ∃ p, cF t a b' = p := ⟨_, rfl⟩
    obtain ⟨p2, hp2⟩ : ∃ p, cF t a' b = p := ⟨_, rfl⟩
    obtain ⟨p3, hp3⟩ : ∃ p, cF t a' b' = p := ⟨_, rfl⟩
    obtain ⟨z1, hz1⟩ : ∃ z, (if p2 < p1 then p2 else p1) = z := ⟨_, rfl⟩
    obtain ⟨z2, hz2⟩ : ∃ z, (if p3 < p then p3 else p) = z := ⟨_, rfl⟩
    rw [hp1] at h2m hbd1
    rw [hp2] at h2m hbd2
    rw [hp3] at h2m hbd3
    rw [HP.out] at h2m hbd0
    have hz1b : 0 ≤ z1 ∧ z1 ≤ 10000 := by rw [← hz1]; split <;> omega
    have hz2b : 0 ≤ z2 ∧ z2 ≤ 10000 := by rw [← hz2]; split <;> omega
    have HG3 := Lib.hid (show hiI t (allM t true) a b = p + z1 by rw [h2m.1, ← hz1]; split <;> omega)
    have HG4 := Lib.hid (show loI t (allM t true) a b = p - z2 by rw [h2m.2, ← hz2]; split <;> omega)
    have hw1 : IntKind.i64.wrap (p + z1) = p + z1 := by rw [IntKind.wrap_i64] <;> omega
    have hw2 : IntKind.i64.wrap (p - z2) = p - z2 := by rw [IntKind.wrap_i64] <;> omega
    have HCE := Lib.hid (show ∀ w', Below w2.heap.size w2 w' → w'.cell? ⟨bt, ot + a, none⟩ = some (.slice (some ⟨rb a, ro a, none⟩) 2 (rc a)) ∧ w'.cell? ⟨bt, ot + a', none⟩ = some (.slice (some ⟨rb a', ro a', none⟩) 2 (rc a')) ∧
      w'.cell? ⟨rb a, ro a + b, none⟩ = some (.int .i64 p) ∧ w'.cell? ⟨rb a, ro a + b', none⟩ = some (.int .i64 p1) ∧ w'.cell? ⟨rb a', ro a' + b, none⟩ = some (.int .i64 p2) ∧ w'.cell? ⟨rb a', ro a' + b', none⟩ = some (.int .i64 p3) from fun w' h => by
      obtain ⟨hR, hC⟩ := HALL.out w' h
      have hq := HQ.out
      have hd := HD.out
      have i1 := hR a (by omega)
      have i2 := hR a' (by omega)
      have i3 := hC a b (by omega) (by omega)
      have i4 := hC a b' (by omega) (by omega)
      have i5 := hC a' b (by omega) (by omega)
      have i6 := hC a' b' (by omega) (by omega)
      rw [hd] at i1 i2
      rw [HP.out] at i3
      rw [hp1] at i4
      rw [hp2] at i5
      rw [hp3] at i6
      exact ⟨i1, i2, i3, i4, i5, i6⟩)
    clear h2m hp1 hp2 hp3 hR hC ha' hb' hbd0 hbd1 hbd2 hbd3 ea ec hd2 hq2
    go_wp2_with fail
    refine (lAll_is w2 t _ HT2.out (wd t) HTL.out HTD.out HTD6.out true (allM t true) rfl _ (Below.refl _ _)).mono ?_
    rintro e w4 ⟨u4, rfl, ho4, h4⟩
    have HU4 := Lib.hid ho4.is
    have HT4 := Lib.hid (HT2.out.below h4)
    clear ho4 e0
    have HBB := Lib.hid (show ∀ w', Below w4.heap.size w4 w' → Below w.heap.size w w' from fun w' h => HBW.out.trans ((below_step (below_step b2 h4) h).mono HBW.out.size))
    go_wp2_with fail
    refine (iHigh_is w4 t _ HT4.out (allM t true) _ HU4.out a b (p + z1) HG3.out _ (Below.refl _ _)).mono ?_
    rintro e x0 ⟨rfl, y0⟩
    go_wp2_with fail
    refine (iLow_is w4 t _ HT4.out (allM t true) _ HU4.out a b (p - z2) HG4.out _ y0).mono ?_
    rintro e x1 ⟨rfl, y1⟩
    obtain ⟨c1, c2, c3, c4, c5, c6⟩ := HCE.out _ (below_step h4 y1)
    go_wp2
    go_quiet (fail)
    go_wp2
    go_ret
    exact ⟨by first | rfl | exact retb (by simp) | exact retb (by simp; omega), HBB.out _ (below_drewN y1 _)⟩
end Go.Proofs.Ytpajbgkgleeifaa
