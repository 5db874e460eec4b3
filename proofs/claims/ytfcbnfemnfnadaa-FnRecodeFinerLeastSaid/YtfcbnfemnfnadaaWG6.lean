/- A law of chapter 3: between two recodings there is a finest one. -/
import Derived.Test.YtfcbnfemnfnadaaWG5
namespace Go.Proofs.Ytfcbnfemnfnadaa
open Go.RowKit
theorem m_between {ll : List (List Int)} {a b c lo hi : Rc} (h : rcFiner ll a b = true) (hc : rcOk ll c = true) (l0 : (if c.area < b.area then c.area else b.area) = lo.area) (l1 : (if c.job < b.job then c.job else b.job) = lo.job) (l2 : (if c.sex < b.sex then c.sex else b.sex) = lo.sex)
    (h0 : (if a.area < c.area then c.area else a.area) = hi.area) (h1 : (if a.job < c.job then c.job else a.job) = hi.job) (h2 : (if a.sex < c.sex then c.sex else a.sex) = hi.sex) :
    rcFiner ll lo b = true ∧ rcFiner ll lo c = true ∧ rcFiner ll a hi = true ∧ rcFiner ll c hi = true := by
  obtain ⟨ha, hb, _, _, _⟩ := finer_parts.1 h
  obtain ⟨g0, aa0, aa1, aj0, aj1, as0, as1⟩ := rc_parts ha
  obtain ⟨_, ba0, ba1, bj0, bj1, bs0, bs1⟩ := rc_parts hb
  obtain ⟨_, ca0, ca1, cj0, cj1, cs0, cs1⟩ := rc_parts hc
  have hlo : rcOk ll lo = true := rc_mk g0 (by rw [← l0]; split <;> omega) (by rw [← l0]; split <;> omega) (by rw [← l1]; split <;> omega) (by rw [← l1]; split <;> omega) (by rw [← l2]; split <;> omega) (by rw [← l2]; split <;> omega)
  have hhi : rcOk ll hi = true := rc_mk g0 (by rw [← h0]; split <;> omega) (by rw [← h0]; split <;> omega) (by rw [← h1]; split <;> omega) (by rw [← h1]; split <;> omega) (by rw [← h2]; split <;> omega) (by rw [← h2]; split <;> omega)
  exact ⟨finer_parts.2 ⟨hlo, hb, by rw [← l0]; split <;> omega, by rw [← l1]; split <;> omega, by rw [← l2]; split <;> omega⟩, finer_parts.2 ⟨hlo, hc, by rw [← l0]; split <;> omega, by rw [← l1]; split <;> omega, by rw [← l2]; split <;> omega⟩,
    finer_parts.2 ⟨ha, hhi, by rw [← h0]; split <;> omega, by rw [← h1]; split <;> omega, by rw [← h2]; split <;> omega⟩, finer_parts.2 ⟨hc, hhi, by rw [← h0]; split <;> omega, by rw [← h1]; split <;> omega, by rw [← h2]; split <;> omega⟩⟩
set_option maxHeartbeats 4000000 in
theorem w_RecodeFinerLeast (A : Option Addr) (n c : Nat) (hnc : n ≤ c) (hn : n ≤ maxLen) (A2 : Option Addr) (m c2 : Nat) (_hmc : m ≤ c2) (hm : m ≤ maxLen) (w : World) (hb : Bytes w w.heap.size A n) (_hb2 : Bytes w w.heap.size A2 m) :
    Calls Try.prog 12 #[.slice A n c, .slice A2 m c2] w fun e w' => e = .returned (.bool true) ∧ Below w.heap.size w w' := by
  have hn2 := hn
  have hm2 := hm
  unfold maxLen at hn2 hm2
  rcases (show 1048576 < n ∨ (¬ 1048576 < n ∧ 1048576 < m) ∨ ¬ 1048576 < n ∧ ¬ 1048576 < m by omega) with hbig | ⟨hbig, hbig2⟩ | ⟨hbig, hbig2⟩
  · go_enter Try.func12, Try.ntmps12
    go_wp2
    go_ret
    exact ⟨rfl, Below.refl _ _⟩
  · go_enter Try.func12, Try.ntmps12
    go_wp2
    go_ret
    exact ⟨rfl, Below.refl _ _⟩
  · go_enter Try.func12, Try.ntmps12
    go_wp2_with fail
    refine (dRcFiner_any A n c hnc hn _ hb).mono ?_
    rintro e W ⟨ll, u, a, b, rfl, hu, hll, hbW⟩
    obtain ⟨W1, hW⟩ : ∃ W1, W1 = (W.alloc (.cells #[.int .i64 a.area, .int .i64 a.job, .int .i64 a.sex] TRc)).alloc (.cells #[.int .i64 b.area, .int .i64 b.job, .int .i64 b.sex] TRc) := ⟨_, rfl⟩
    have hb1 : Below W.heap.size W W1 := by rw [hW]; exact ((Below.refl _ _).alloc (Nat.le_refl _) _).alloc (by simp) _
    have Ae0 : W1.cell? ⟨W.heap.size, 0, none⟩ = some (.int .i64 a.area) := by rw [hW]; simp [go_sem]
    have Ae1 : W1.cell? ⟨W.heap.size, 1, none⟩ = some (.int .i64 a.job) := by rw [hW]; simp [go_sem]
    have Ae2 : W1.cell? ⟨W.heap.size, 2, none⟩ = some (.int .i64 a.sex) := by rw [hW]; simp [go_sem]
    have hzA : W.heap.size < W1.heap.size := by rw [hW]; simp <;> omega
    have HA := Lib.hid (show ∀ w', Below W1.heap.size W1 w' → w'.cell? ⟨W.heap.size, 0, none⟩ = some (.int .i64 a.area) ∧ w'.cell? ⟨W.heap.size, 1, none⟩ = some (.int .i64 a.job) ∧ w'.cell? ⟨W.heap.size, 2, none⟩ = some (.int .i64 a.sex) from fun w' h => ⟨(h.cell (p := ⟨W.heap.size, 0, none⟩) hzA).trans Ae0, (h.cell (p := ⟨W.heap.size, 1, none⟩) hzA).trans Ae1, (h.cell (p := ⟨W.heap.size, 2, none⟩) hzA).trans Ae2⟩)
    clear Ae0 Ae1 Ae2
    have Be0 : W1.cell? ⟨W.heap.size + 1, 0, none⟩ = some (.int .i64 b.area) := by rw [hW]; simp [go_sem]
    have Be1 : W1.cell? ⟨W.heap.size + 1, 1, none⟩ = some (.int .i64 b.job) := by rw [hW]; simp [go_sem]
    have Be2 : W1.cell? ⟨W.heap.size + 1, 2, none⟩ = some (.int .i64 b.sex) := by rw [hW]; simp [go_sem]
    have hzB : W.heap.size + 1 < W1.heap.size := by rw [hW]; simp <;> omega
    have HB' := Lib.hid (show ∀ w', Below W1.heap.size W1 w' → w'.cell? ⟨W.heap.size + 1, 0, none⟩ = some (.int .i64 b.area) ∧ w'.cell? ⟨W.heap.size + 1, 1, none⟩ = some (.int .i64 b.job) ∧ w'.cell? ⟨W.heap.size + 1, 2, none⟩ = some (.int .i64 b.sex) from fun w' h => ⟨(h.cell (p := ⟨W.heap.size + 1, 0, none⟩) hzB).trans Be0, (h.cell (p := ⟨W.heap.size + 1, 1, none⟩) hzB).trans Be1, (h.cell (p := ⟨W.heap.size + 1, 2, none⟩) hzB).trans Be2⟩)
    clear Be0 Be1 Be2
    have HU := Lib.hid (hu.below hb1)
    have HB := Lib.hid (hbW.trans (hb1.mono hbW.size))
    have b0 := Below.refl W1.heap.size W1
    clear hu hbW hb hb1
    obtain ⟨Au, cu, hu2, _, _, _⟩ := HU.out
    subst hu2
    cases hok : rcFiner ll a b
    · have HG := Lib.hid hok; clear hok
      go_wp2_with fail
      rw [← hW]
      clear hW
      refine (iFiner_is W1 ll _ HU.out a b _ HG.out _ b0).mono ?_
      rintro e w1 ⟨rfl, b1⟩
      obtain ⟨c0, c1, c2⟩ := HA.out _ b1
      obtain ⟨d0, d1, d2⟩ := HB'.out _ b1
      go_wp2_with fail
      refine (sFiner_is W1 ll _ HU.out a b _ HG.out _ b1).mono ?_
      rintro e w2 ⟨rfl, b2⟩
      go_wp2
      go_ret
      exact ⟨by first | rfl | exact retb (by simp) | exact retb (by simp; omega), HB.out.trans (b2.mono HB.out.size)⟩
    · have HG := Lib.hid hok
      have hll3 : ll.length ≤ 3 := lad_len (rc_parts (finer_parts.1 hok).1).1
      obtain ⟨y0, hy0⟩ : ∃ y : Int, (m : Int) % ((ll.length : Int) + 1) = y := ⟨_, rfl⟩
      obtain ⟨y1, hy1⟩ : ∃ y : Int, (m : Int) % 2 = y := ⟨_, rfl⟩
      obtain ⟨y2, hy2⟩ : ∃ y : Int, (m : Int) / 2 % 2 = y := ⟨_, rfl⟩
      have hy00 : 0 ≤ y0 := by rw [← hy0]; exact Int.emod_nonneg _ (by omega)
      have hy01 : y0 < (ll.length : Int) + 1 := by rw [← hy0]; exact Int.emod_lt_of_pos _ (by omega)
      have hy12 : 0 ≤ y1 ∧ y1 ≤ 1 ∧ 0 ≤ y2 ∧ y2 ≤ 1 := by omega
      have HOKC := Lib.hid (show rcOk ll ⟨y0, y1, y2⟩ = true from rc_mk (rc_parts (finer_parts.1 hok).1).1 hy00 (by simp only; omega) hy12.1 hy12.2.1 hy12.2.2.1 hy12.2.2.2)
      have HOKF := Lib.hid hok
      have HY0 := Lib.hid hy0; have HY1 := Lib.hid hy1; have HY2 := Lib.hid hy2
      clear hy0 hy1 hy2 hy00 hy01 hy12
      obtain ⟨l0, hl0⟩ : ∃ x, (if y0 < b.area then y0 else b.area) = x := ⟨_, rfl⟩
      obtain ⟨l1, hl1⟩ : ∃ x, (if y1 < b.job then y1 else b.job) = x := ⟨_, rfl⟩
      obtain ⟨l2, hl2⟩ : ∃ x, (if y2 < b.sex then y2 else b.sex) = x := ⟨_, rfl⟩
      obtain ⟨h0, hh0⟩ : ∃ x, (if a.area < y0 then y0 else a.area) = x := ⟨_, rfl⟩
      obtain ⟨h1, hh1⟩ : ∃ x, (if a.job < y1 then y1 else a.job) = x := ⟨_, rfl⟩
      obtain ⟨h2, hh2⟩ : ∃ x, (if a.sex < y2 then y2 else a.sex) = x := ⟨_, rfl⟩
      obtain ⟨m1, m2, m3, m4⟩ := m_between (lo := ⟨l0, l1, l2⟩) (hi := ⟨h0, h1, h2⟩) hok HOKC.out hl0 hl1 hl2 hh0 hh1 hh2
      have M1 := Lib.hid m1; have M2 := Lib.hid m2; have M3 := Lib.hid m3; have M4 := Lib.hid m4
      clear m1 m2 m3 m4
      clear hok
      go_wp2_with fail
      rw [← hW]
      clear hW
      refine (iFiner_is W1 ll _ HU.out a b _ HG.out _ b0).mono ?_
      rintro e w1 ⟨rfl, b1⟩
      obtain ⟨c0, c1, c2⟩ := HA.out _ b1
      obtain ⟨d0, d1, d2⟩ := HB'.out _ b1
      go_wp2_with fail
      refine (sFiner_is W1 ll _ HU.out a b _ HG.out _ b1).mono ?_
      rintro e w2 ⟨rfl, b2⟩
      clear c0 c1 c2 d0 d1 d2
      obtain ⟨c0, c1, c2⟩ := HA.out _ b2
      obtain ⟨d0, d1, d2⟩ := HB'.out _ b2
      have hzA2 : W.heap.size < w2.heap.size := by have := b2.size; omega
      have hzB2 : W.heap.size + 1 < w2.heap.size := by have := b2.size; omega
      have hne1 : ¬ W.heap.size = w2.heap.size := by omega
      have hne2 : ¬ w2.heap.size = W.heap.size := by omega
      have hne3 : ¬ W.heap.size + 1 = w2.heap.size := by omega
      have hne4 : ¬ w2.heap.size = W.heap.size + 1 := by omega
      obtain ⟨W3, hW⟩ : ∃ W3, W3 = ((w2.alloc (.cells #[.int .i64 y0, .int .i64 y1, .int .i64 y2] TRc)).alloc (.cells #[.int .i64 l0, .int .i64 l1, .int .i64 l2] TRc)).alloc (.cells #[.int .i64 h0, .int .i64 h1, .int .i64 h2] TRc) := ⟨_, rfl⟩
      have hb3 : Below w2.heap.size w2 W3 := by rw [hW]; exact (((Below.refl _ _).alloc (Nat.le_refl _) _).alloc (by simp) _).alloc (by simp; omega) _
      have kc0 : W3.cell? ⟨w2.heap.size, 0, none⟩ = some (.int .i64 y0) := by rw [hW]; simp [go_sem]
      have kc1 : W3.cell? ⟨w2.heap.size, 1, none⟩ = some (.int .i64 y1) := by rw [hW]; simp [go_sem]
      have kc2 : W3.cell? ⟨w2.heap.size, 2, none⟩ = some (.int .i64 y2) := by rw [hW]; simp [go_sem]
      have kl0 : W3.cell? ⟨w2.heap.size + 1, 0, none⟩ = some (.int .i64 l0) := by rw [hW]; simp [go_sem]
      have kl1 : W3.cell? ⟨w2.heap.size + 1, 1, none⟩ = some (.int .i64 l1) := by rw [hW]; simp [go_sem]
      have kl2 : W3.cell? ⟨w2.heap.size + 1, 2, none⟩ = some (.int .i64 l2) := by rw [hW]; simp [go_sem]
      have kh0 : W3.cell? ⟨w2.heap.size + 2, 0, none⟩ = some (.int .i64 h0) := by rw [hW]; simp [go_sem]
      have kh1 : W3.cell? ⟨w2.heap.size + 2, 1, none⟩ = some (.int .i64 h1) := by rw [hW]; simp [go_sem]
      have kh2 : W3.cell? ⟨w2.heap.size + 2, 2, none⟩ = some (.int .i64 h2) := by rw [hW]; simp [go_sem]
      have ka0 : W3.cell? ⟨W.heap.size, 0, none⟩ = some (.int .i64 a.area) := (hb3.cell (p := ⟨W.heap.size, 0, none⟩) hzA2).trans c0
      have ka1 : W3.cell? ⟨W.heap.size, 1, none⟩ = some (.int .i64 a.job) := (hb3.cell (p := ⟨W.heap.size, 1, none⟩) hzA2).trans c1
      have ka2 : W3.cell? ⟨W.heap.size, 2, none⟩ = some (.int .i64 a.sex) := (hb3.cell (p := ⟨W.heap.size, 2, none⟩) hzA2).trans c2
      have kb0 : W3.cell? ⟨W.heap.size + 1, 0, none⟩ = some (.int .i64 b.area) := (hb3.cell (p := ⟨W.heap.size + 1, 0, none⟩) hzB2).trans d0
      have kb1 : W3.cell? ⟨W.heap.size + 1, 1, none⟩ = some (.int .i64 b.job) := (hb3.cell (p := ⟨W.heap.size + 1, 1, none⟩) hzB2).trans d1
      have kb2 : W3.cell? ⟨W.heap.size + 1, 2, none⟩ = some (.int .i64 b.sex) := (hb3.cell (p := ⟨W.heap.size + 1, 2, none⟩) hzB2).trans d2
      have hz3 : w2.heap.size + 2 < W3.heap.size := by rw [hW]; simp <;> omega
      have hza3 : W.heap.size < W3.heap.size := by omega
      have hzb3 : W.heap.size + 1 < W3.heap.size := by omega
      have hzc3 : w2.heap.size < W3.heap.size := by omega
      have hzl3 : w2.heap.size + 1 < W3.heap.size := by omega
      have hzh3 : w2.heap.size + 2 < W3.heap.size := by omega
      have HK := Lib.hid (show ∀ w', Below W3.heap.size W3 w' → w'.cell? ⟨W.heap.size, 0, none⟩ = some (.int .i64 a.area) ∧ w'.cell? ⟨W.heap.size, 1, none⟩ = some (.int .i64 a.job) ∧ w'.cell? ⟨W.heap.size, 2, none⟩ = some (.int .i64 a.sex) ∧ w'.cell? ⟨W.heap.size + 1, 0, none⟩ = some (.int .i64 b.area) ∧ w'.cell? ⟨W.heap.size + 1, 1, none⟩ = some (.int .i64 b.job) ∧ w'.cell? ⟨W.heap.size + 1, 2, none⟩ = some (.int .i64 b.sex) ∧ w'.cell? ⟨w2.heap.size, 0, none⟩ = some (.int .i64 y0) ∧ w'.cell? ⟨w2.heap.size, 1, none⟩ = some (.int .i64 y1) ∧ w'.cell? ⟨w2.heap.size, 2, none⟩ = some (.int .i64 y2) ∧ w'.cell? ⟨w2.heap.size + 1, 0, none⟩ = some (.int .i64 l0) ∧ w'.cell? ⟨w2.heap.size + 1, 1, none⟩ = some (.int .i64 l1) ∧ w'.cell? ⟨w2.heap.size + 1, 2, none⟩ = some (.int .i64 l2) ∧ w'.cell? ⟨w2.heap.size + 2, 0, none⟩ = some (.int .i64 h0) ∧ w'.cell? ⟨w2.heap.size + 2, 1, none⟩ = some (.int .i64 h1) ∧ w'.cell? ⟨w2.heap.size + 2, 2, none⟩ = some (.int .i64 h2) from fun w' h => ⟨(h.cell (p := ⟨W.heap.size, 0, none⟩) hza3).trans ka0, (h.cell (p := ⟨W.heap.size, 1, none⟩) hza3).trans ka1, (h.cell (p := ⟨W.heap.size, 2, none⟩) hza3).trans ka2, (h.cell (p := ⟨W.heap.size + 1, 0, none⟩) hzb3).trans kb0, (h.cell (p := ⟨W.heap.size + 1, 1, none⟩) hzb3).trans kb1, (h.cell (p := ⟨W.heap.size + 1, 2, none⟩) hzb3).trans kb2, (h.cell (p := ⟨w2.heap.size, 0, none⟩) hzc3).trans kc0, (h.cell (p := ⟨w2.heap.size, 1, none⟩) hzc3).trans kc1, (h.cell (p := ⟨w2.heap.size, 2, none⟩) hzc3).trans kc2, (h.cell (p := ⟨w2.heap.size + 1, 0, none⟩) hzl3).trans kl0, (h.cell (p := ⟨w2.heap.size + 1, 1, none⟩) hzl3).trans kl1, (h.cell (p := ⟨w2.heap.size + 1, 2, none⟩) hzl3).trans kl2, (h.cell (p := ⟨w2.heap.size + 2, 0, none⟩) hzh3).trans kh0, (h.cell (p := ⟨w2.heap.size + 2, 1, none⟩) hzh3).trans kh1, (h.cell (p := ⟨w2.heap.size + 2, 2, none⟩) hzh3).trans kh2⟩)
      clear ka0 ka1 ka2 kb0 kb1 kb2 kc0 kc1 kc2 kl0 kl1 kl2 kh0 kh1 kh2
      have b3 : Below W1.heap.size W1 W3 := b2.trans (hb3.mono b2.size)
      have HU3 := Lib.hid (HU.out.below b3)
      clear hb3
      have hy0 := HY0.out
      have hy1 := HY1.out
      have hy2 := HY2.out
      go_wp2_with fail
      rw [← hW]
      clear hW c0 c1 c2 d0 d1 d2 hy0 hy1 hy2 hl0 hl1 hl2 hh0 hh1 hh2
      refine (iFiner_is W3 ll _ HU3.out ⟨l0, l1, l2⟩ b _ M1.out _ (Below.refl _ _)).mono ?_
      rintro e w4 ⟨rfl, b4⟩
      obtain ⟨ka0, ka1, ka2, kb0, kb1, kb2, kc0, kc1, kc2, kl0, kl1, kl2, kh0, kh1, kh2⟩ := HK.out _ b4
      go_wp2_with fail
      refine (iFiner_is W3 ll _ HU3.out ⟨l0, l1, l2⟩ ⟨y0, y1, y2⟩ _ M2.out _ b4).mono ?_
      rintro e w5 ⟨rfl, b5⟩
      clear ka0 ka1 ka2 kb0 kb1 kb2 kc0 kc1 kc2 kl0 kl1 kl2 kh0 kh1 kh2
      obtain ⟨ka0, ka1, ka2, kb0, kb1, kb2, kc0, kc1, kc2, kl0, kl1, kl2, kh0, kh1, kh2⟩ := HK.out _ b5
      go_wp2_with fail
      refine (iFiner_is W3 ll _ HU3.out a ⟨h0, h1, h2⟩ _ M3.out _ b5).mono ?_
      rintro e w6 ⟨rfl, b6⟩
      clear ka0 ka1 ka2 kb0 kb1 kb2 kc0 kc1 kc2 kl0 kl1 kl2 kh0 kh1 kh2
      obtain ⟨ka0, ka1, ka2, kb0, kb1, kb2, kc0, kc1, kc2, kl0, kl1, kl2, kh0, kh1, kh2⟩ := HK.out _ b6
      go_wp2_with fail
      refine (iFiner_is W3 ll _ HU3.out ⟨y0, y1, y2⟩ ⟨h0, h1, h2⟩ _ M4.out _ b6).mono ?_
      rintro e w7 ⟨rfl, b7⟩
      clear ka0 ka1 ka2 kb0 kb1 kb2 kc0 kc1 kc2 kl0 kl1 kl2 kh0 kh1 kh2
      go_wp2
      go_ret
      exact ⟨by first | rfl | exact retb (by simp), HB.out.trans ((b3.trans (b7.mono b3.size)).mono HB.out.size)⟩
end Go.Proofs.Ytfcbnfemnfnadaa
