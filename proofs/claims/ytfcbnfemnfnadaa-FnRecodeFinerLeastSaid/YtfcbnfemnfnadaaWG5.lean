/- Laws of chapter 3 on recodings. -/
import Derived.Test.YtfcbnfemnfnadaaGC
import Derived.Test.YtfcbnfemnfnadaaGM
import Derived.Test.YtfcbnfemnfnadaaG14
import Derived.Test.YtfcbnfemnfnadaaSP
namespace Go.Proofs.Ytfcbnfemnfnadaa
open Go.RowKit
theorem rc_false {ll : List (List Int)} {r : Rc} (h : ¬ (r.area ≤ ll.length ∧ r.sex ≤ 1)) : rcOk ll r = false := by
  cases hc : rcOk ll r
  · rfl
  · obtain ⟨_, _, a1, _, _, _, s1⟩ := rc_parts hc; exact absurd ⟨a1, s1⟩ h
set_option maxHeartbeats 4000000 in
theorem w_Recode (A : Option Addr) (n c : Nat) (hnc : n ≤ c) (hn : n ≤ maxLen) (w : World) (hb : Bytes w w.heap.size A n) :
    Calls Try.prog 9 #[.slice A n c] w fun e w' => e = .returned (.bool true) ∧ Below w.heap.size w w' := by
  have hn2 := hn
  unfold maxLen at hn2
  rcases (show 1048576 < n ∨ ¬ 1048576 < n by omega) with hbig | hbig
  · go_enter Try.func9, Try.ntmps9
    go_wp2
    go_ret
    exact ⟨rfl, Below.refl _ _⟩
  · go_enter Try.func9, Try.ntmps9
    go_wp2_with fail
    refine (dRcValid_any A n c hnc hn _ hb).mono ?_
    rintro e W ⟨ll, u, r, rfl, hu, hll, hbW⟩
    obtain ⟨W1, hW⟩ : ∃ W1, W1 = W.alloc (.cells #[.int .i64 r.area, .int .i64 r.job, .int .i64 r.sex] TRc) := ⟨_, rfl⟩
    have hb1 : Below W.heap.size W W1 := by rw [hW]; exact (Below.refl _ _).alloc (Nat.le_refl _) _
    have Ce0 : W1.cell? ⟨W.heap.size, 0, none⟩ = some (.int .i64 r.area) := by rw [hW]; simp [go_sem]
    have Ce1 : W1.cell? ⟨W.heap.size, 1, none⟩ = some (.int .i64 r.job) := by rw [hW]; simp [go_sem]
    have Ce2 : W1.cell? ⟨W.heap.size, 2, none⟩ = some (.int .i64 r.sex) := by rw [hW]; simp [go_sem]
    have hzC : W.heap.size < W1.heap.size := by rw [hW]; simp <;> omega
    have HC := Lib.hid (show ∀ w', Below W1.heap.size W1 w' → w'.cell? ⟨W.heap.size, 0, none⟩ = some (.int .i64 r.area) ∧ w'.cell? ⟨W.heap.size, 1, none⟩ = some (.int .i64 r.job) ∧ w'.cell? ⟨W.heap.size, 2, none⟩ = some (.int .i64 r.sex) from fun w' h => ⟨(h.cell (p := ⟨W.heap.size, 0, none⟩) hzC).trans Ce0, (h.cell (p := ⟨W.heap.size, 1, none⟩) hzC).trans Ce1, (h.cell (p := ⟨W.heap.size, 2, none⟩) hzC).trans Ce2⟩)
    clear Ce0 Ce1 Ce2
    have HU := Lib.hid (hu.below hb1)
    have HB := Lib.hid (hbW.trans (hb1.mono hbW.size))
    have b0 := Below.refl W1.heap.size W1
    clear hu hbW hb hb1
    obtain ⟨Au, cu, hu2, _, _, _⟩ := HU.out
    subst hu2
    cases hok : rcOk ll r
    · have HG := Lib.hid hok; clear hok
      go_wp2_with fail
      rw [← hW]
      clear hW
      refine (iRcValid_is W1 ll _ HU.out r _ HG.out _ b0).mono ?_
      rintro e w1 ⟨rfl, b1⟩
      obtain ⟨c0, c1, c2⟩ := HC.out _ b1
      go_wp2_with fail
      refine (sRcValid_is W1 ll _ HU.out r _ HG.out _ b1).mono ?_
      rintro e w2 ⟨rfl, b2⟩
      go_wp2
      go_ret
      exact ⟨by first | rfl | exact retb (by simp) | exact retb (by simp; omega), HB.out.trans (b2.mono HB.out.size)⟩
    · have h0 := (rc_parts hok).1
      have HL := Lib.hid (rlow_ok h0)
      have HA := Lib.hid (show rcOk ll ⟨(ll.length : Int) + 1, r.job, r.sex⟩ = false from rc_false (by simp; omega))
      have HS := Lib.hid (show rcOk ll ⟨r.area, r.job, 2⟩ = false from rc_false (by simp))
      have HG := Lib.hid hok; clear hok h0
      go_wp2_with fail
      rw [← hW]
      clear hW
      refine (iRcValid_is W1 ll _ HU.out r _ HG.out _ b0).mono ?_
      rintro e w1 ⟨rfl, b1⟩
      obtain ⟨c0, c1, c2⟩ := HC.out _ b1
      go_wp2_with fail
      refine (sRcValid_is W1 ll _ HU.out r _ HG.out _ b1).mono ?_
      rintro e w2 ⟨rfl, b2⟩
      clear c0 c1 c2
      obtain ⟨c0, c1, c2⟩ := HC.out _ b2
      have hzw2 : W.heap.size < w2.heap.size := by have := b2.size; omega
      have hne1 : ¬ W.heap.size = w2.heap.size := by omega
      have hne2 : ¬ w2.heap.size = W.heap.size := by omega
      obtain ⟨W3, hW⟩ : ∃ W3, W3 = (w2.alloc (.cells #[.int .i64 ((ll.length : Int) + 1), .int .i64 r.job, .int .i64 r.sex] TRc)).alloc (.cells #[.int .i64 r.area, .int .i64 r.job, .int .i64 2] TRc) := ⟨_, rfl⟩
      have hb3 : Below w2.heap.size w2 W3 := by rw [hW]; exact ((Below.refl _ _).alloc (Nat.le_refl _) _).alloc (by simp) _
      have De0 : W3.cell? ⟨w2.heap.size, 0, none⟩ = some (.int .i64 ((ll.length : Int) + 1)) := by rw [hW]; simp [go_sem]
      have De1 : W3.cell? ⟨w2.heap.size, 1, none⟩ = some (.int .i64 r.job) := by rw [hW]; simp [go_sem]
      have De2 : W3.cell? ⟨w2.heap.size, 2, none⟩ = some (.int .i64 r.sex) := by rw [hW]; simp [go_sem]
      have hzD : w2.heap.size < W3.heap.size := by rw [hW]; simp <;> omega
      have HD := Lib.hid (show ∀ w', Below W3.heap.size W3 w' → w'.cell? ⟨w2.heap.size, 0, none⟩ = some (.int .i64 ((ll.length : Int) + 1)) ∧ w'.cell? ⟨w2.heap.size, 1, none⟩ = some (.int .i64 r.job) ∧ w'.cell? ⟨w2.heap.size, 2, none⟩ = some (.int .i64 r.sex) from fun w' h => ⟨(h.cell (p := ⟨w2.heap.size, 0, none⟩) hzD).trans De0, (h.cell (p := ⟨w2.heap.size, 1, none⟩) hzD).trans De1, (h.cell (p := ⟨w2.heap.size, 2, none⟩) hzD).trans De2⟩)
      clear De0 De1 De2
      have Ee0 : W3.cell? ⟨w2.heap.size + 1, 0, none⟩ = some (.int .i64 r.area) := by rw [hW]; simp [go_sem]
      have Ee1 : W3.cell? ⟨w2.heap.size + 1, 1, none⟩ = some (.int .i64 r.job) := by rw [hW]; simp [go_sem]
      have Ee2 : W3.cell? ⟨w2.heap.size + 1, 2, none⟩ = some (.int .i64 2) := by rw [hW]; simp [go_sem]
      have hzE : w2.heap.size + 1 < W3.heap.size := by rw [hW]; simp <;> omega
      have HE := Lib.hid (show ∀ w', Below W3.heap.size W3 w' → w'.cell? ⟨w2.heap.size + 1, 0, none⟩ = some (.int .i64 r.area) ∧ w'.cell? ⟨w2.heap.size + 1, 1, none⟩ = some (.int .i64 r.job) ∧ w'.cell? ⟨w2.heap.size + 1, 2, none⟩ = some (.int .i64 2) from fun w' h => ⟨(h.cell (p := ⟨w2.heap.size + 1, 0, none⟩) hzE).trans Ee0, (h.cell (p := ⟨w2.heap.size + 1, 1, none⟩) hzE).trans Ee1, (h.cell (p := ⟨w2.heap.size + 1, 2, none⟩) hzE).trans Ee2⟩)
      clear Ee0 Ee1 Ee2
      have b3 : Below W1.heap.size W1 W3 := b2.trans (hb3.mono b2.size)
      have HU3 := Lib.hid (HU.out.below b3)
      clear hb3
      go_wp2_with fail
      rw [← hW]
      clear hW
      refine (iRcValid_is W3 ll _ HU3.out rlow _ HL.out _ (Below.refl _ _)).mono ?_
      rintro e w4 ⟨rfl, b4⟩
      clear c0 c1 c2
      obtain ⟨c0, c1, c2⟩ := HD.out _ b4
      go_wp2_with fail
      refine (iRcValid_is W3 ll _ HU3.out ⟨(ll.length : Int) + 1, r.job, r.sex⟩ _ HA.out _ b4).mono ?_
      rintro e w5 ⟨rfl, b5⟩
      clear c0 c1 c2
      obtain ⟨c0, c1, c2⟩ := HE.out _ b5
      go_wp2_with fail
      refine (iRcValid_is W3 ll _ HU3.out ⟨r.area, r.job, 2⟩ _ HS.out _ b5).mono ?_
      rintro e w6 ⟨rfl, b6⟩
      clear c0 c1 c2
      go_wp2
      go_ret
      exact ⟨by first | rfl | exact retb (by simp), HB.out.trans ((b3.trans (b6.mono b3.size)).mono HB.out.size)⟩
theorem finer_parts {ll : List (List Int)} {a b : Rc} : rcFiner ll a b = true ↔ rcOk ll a = true ∧ rcOk ll b = true ∧ a.area ≤ b.area ∧ a.job ≤ b.job ∧ a.sex ≤ b.sex := by
  simp only [rcFiner, Bool.and_eq_true, decide_eq_true_eq]
  exact ⟨fun h => ⟨h.1.1.1.1, h.1.1.1.2, h.1.1.2, h.1.2, h.2⟩, fun h => ⟨⟨⟨⟨h.1, h.2.1⟩, h.2.2.1⟩, h.2.2.2.1⟩, h.2.2.2.2⟩⟩
theorem m_finer {ll : List (List Int)} {a b : Rc} (h : rcFiner ll a b = true) : rcFiner ll a a = true ∧ rcFiner ll rlow b = true ∧ (a = b → rcFiner ll b a = true) ∧ (¬ (a.area = b.area ∧ a.job = b.job ∧ a.sex = b.sex) → rcFiner ll b a = false) := by
  obtain ⟨h1, h2, h3, h4, h5⟩ := finer_parts.1 h
  obtain ⟨h0, a0, a1, j0, j1, s0, s1⟩ := rc_parts h2
  refine ⟨finer_parts.2 ⟨h1, h1, Int.le_refl _, Int.le_refl _, Int.le_refl _⟩, finer_parts.2 ⟨rlow_ok h0, h2, a0, j0, s0⟩, fun e => by rw [← e]; exact finer_parts.2 ⟨h1, h1, Int.le_refl _, Int.le_refl _, Int.le_refl _⟩, fun hn => ?_⟩
  cases hc : rcFiner ll b a
  · rfl
  · obtain ⟨_, _, g3, g4, g5⟩ := finer_parts.1 hc
    exact absurd ⟨by omega, by omega, by omega⟩ hn
set_option maxHeartbeats 4000000 in
theorem w_RecodeFiner (A : Option Addr) (n c : Nat) (hnc : n ≤ c) (hn : n ≤ maxLen) (w : World) (hb : Bytes w w.heap.size A n) :
    Calls Try.prog 10 #[.slice A n c] w fun e w' => e = .returned (.bool true) ∧ Below w.heap.size w w' := by
  have hn2 := hn
  unfold maxLen at hn2
  rcases (show 1048576 < n ∨ ¬ 1048576 < n by omega) with hbig | hbig
  · go_enter Try.func10, Try.ntmps10
    go_wp2
    go_ret
    exact ⟨rfl, Below.refl _ _⟩
  · go_enter Try.func10, Try.ntmps10
    go_wp2_with fail
    refine (dRcFiner_any A n c hnc hn _ hb).mono ?_
    rintro e W ⟨ll, u, a, b, rfl, hu, hll, hbW⟩
    obtain ⟨W1, hW⟩ : ∃ W1, W1 = (W.alloc (.cells #[.int .i64 a.area, .int .i64 a.job, .int .i64 a.sex] TRc)).alloc (.cells #[.int .i64 b.area, .int .i64 b.job, .int .i64 b.sex] TRc) := ⟨_, rfl⟩
    have hb1 : Below W.heap.size W W1 := by rw [hW]; exact ((Below.refl _ _).alloc (Nat.le_refl _) _).alloc (by simp) _
    have Ae0 : W1.cell? ⟨W.heap.size, 0, none⟩ = some (.int .i64 a.area) := by rw [hW]; simp [go_sem]
    have Ae1 : W1.cell? ⟨W.heap.size, 1, none⟩ = some (.int .i64 a.job) := by rw [hW]; simp [go_sem]
    have Ae2 : W1.cell? ⟨W.heap.size, 2, none⟩ = some (.int .i64 a.sex) := by rw [hW]; simp [go_sem]
    have hzA : W.heap.size < W1.heap.size := by rw [hW]; simp <;> omega
    have HA := Lib.hid (show ∀ w', Below W1.heap.size W1 w' → w'.cell? ⟨W.heap.size, 0, none⟩ = some (.int .i64 a.area) ∧ w'.cell? ⟨W.heap.size, 1, none⟩ = some (.int .i64 a.job) ∧ w'.cell? ⟨W.heap.size, 2, none⟩ = some (.int .i64 a.sex) from fun w' h => ⟨(h.cell (p := ⟨W.heap.size, 0, none⟩) hzA).trans Ae0, (h.cell (p := ⟨W.heap.size, 1, none⟩) hzA).trans Ae1, (h.cell (p := ⟨W.heap.size, 2, none⟩) hzA).trans Ae2⟩)
    clear Ae0 Ae1 Ae2
    have Be0 : W1.cell? ⟨W.heap.size + 1, 0, none⟩ = some (.int .i64 b.area) := by rw [hW]; simp [go_sem]
    have Be1 : W1.cell? ⟨W.heap.size + 1, 1, none⟩ = some (.int .i64 b.job) := by rw [hW]; simp [go_sem]
    have Be2 : W1.cell? ⟨W.heap.size + 1, 2, none⟩ = some (.int .i64 b.sex) := by rw [hW]; simp [go_sem]
    have hzB : W.heap.size + 1 < W1.heap.size := by rw [hW]; simp <;> omega
    have HB' := Lib.hid (show ∀ w', Below W1.heap.size W1 w' → w'.cell? ⟨W.heap.size + 1, 0, none⟩ = some (.int .i64 b.area) ∧ w'.cell? ⟨W.heap.size + 1, 1, none⟩ = some (.int .i64 b.job) ∧ w'.cell? ⟨W.heap.size + 1, 2, none⟩ = some (.int .i64 b.sex) from fun w' h => ⟨(h.cell (p := ⟨W.heap.size + 1, 0, none⟩) hzB).trans Be0, (h.cell (p := ⟨W.heap.size + 1, 1, none⟩) hzB).trans Be1, (h.cell (p := ⟨W.heap.size + 1, 2, none⟩) hzB).trans Be2⟩)
    clear Be0 Be1 Be2
    have HU := Lib.hid (hu.below hb1)
    have HB := Lib.hid (hbW.trans (hb1.mono hbW.size))
    have b0 := Below.refl W1.heap.size W1
    clear hu hbW hb hb1
    obtain ⟨Au, cu, hu2, _, _, _⟩ := HU.out
    subst hu2
    cases hok : rcFiner ll a b
    · have HG := Lib.hid hok; clear hok
      go_wp2_with fail
      rw [← hW]
      clear hW
      refine (iFiner_is W1 ll _ HU.out a b _ HG.out _ b0).mono ?_
      rintro e w1 ⟨rfl, b1⟩
      obtain ⟨c0, c1, c2⟩ := HA.out _ b1
      obtain ⟨d0, d1, d2⟩ := HB'.out _ b1
      go_wp2_with fail
      refine (sFiner_is W1 ll _ HU.out a b _ HG.out _ b1).mono ?_
      rintro e w2 ⟨rfl, b2⟩
      go_wp2
      go_ret
      exact ⟨by first | rfl | exact retb (by simp) | exact retb (by simp; omega), HB.out.trans (b2.mono HB.out.size)⟩
    · have HG := Lib.hid hok
      obtain ⟨m1, m2, m3, m4⟩ := m_finer hok
      have M1 := Lib.hid m1; have M2 := Lib.hid (show rcFiner ll ⟨0, 0, 0⟩ b = true from m2); have M3 := Lib.hid m3; have M4 := Lib.hid m4
      clear m1 m2 m3 m4
      clear hok
      go_wp2_with fail
      rw [← hW]
      clear hW
      refine (iFiner_is W1 ll _ HU.out a b _ HG.out _ b0).mono ?_
      rintro e w1 ⟨rfl, b1⟩
      obtain ⟨c0, c1, c2⟩ := HA.out _ b1
      obtain ⟨d0, d1, d2⟩ := HB'.out _ b1
      go_wp2_with fail
      refine (sFiner_is W1 ll _ HU.out a b _ HG.out _ b1).mono ?_
      rintro e w2 ⟨rfl, b2⟩
      clear c0 c1 c2 d0 d1 d2
      obtain ⟨c0, c1, c2⟩ := HA.out _ b2
      obtain ⟨d0, d1, d2⟩ := HB'.out _ b2
      have hzA2 : W.heap.size < w2.heap.size := by have := b2.size; omega
      have hzB2 : W.heap.size + 1 < w2.heap.size := by have := b2.size; omega
      have HF := Lib.hid (show ∀ w' : World, Below w2.heap.size w2 w' → (Below w2.heap.size w2 w' ∧ (w'.cell? ⟨W.heap.size, 0, none⟩ = some (.int .i64 a.area) ∧ w'.cell? ⟨W.heap.size, 1, none⟩ = some (.int .i64 a.job) ∧ w'.cell? ⟨W.heap.size, 2, none⟩ = some (.int .i64 a.sex)) ∧ w'.cell? ⟨W.heap.size + 1, 0, none⟩ = some (.int .i64 b.area) ∧ w'.cell? ⟨W.heap.size + 1, 1, none⟩ = some (.int .i64 b.job) ∧ w'.cell? ⟨W.heap.size + 1, 2, none⟩ = some (.int .i64 b.sex)) from
        fun w' h => ⟨h, ⟨(h.cell (p := ⟨W.heap.size, 0, none⟩) hzA2).trans c0, (h.cell (p := ⟨W.heap.size, 1, none⟩) hzA2).trans c1, (h.cell (p := ⟨W.heap.size, 2, none⟩) hzA2).trans c2⟩, (h.cell (p := ⟨W.heap.size + 1, 0, none⟩) hzB2).trans d0, (h.cell (p := ⟨W.heap.size + 1, 1, none⟩) hzB2).trans d1, (h.cell (p := ⟨W.heap.size + 1, 2, none⟩) hzB2).trans d2⟩)
      have HU2 := Lib.hid (HU.out.below b2)
      have bd : Below w2.heap.size w2 w2.drew := (Below.refl _ _).drew
      clear c0 c1 c2 d0 d1 d2
      have hcase : (∃ f, rcFiner ll b a = f ∧ f = true ∧ (a.area == b.area) = true ∧ (a.job == b.job) = true ∧ (a.sex == b.sex) = true) ∨ (∃ f, rcFiner ll b a = f ∧ f = false ∧ ((a.area == b.area) = false ∨ ((a.area == b.area) = true ∧ (a.job == b.job) = false) ∨ ((a.area == b.area) = true ∧ (a.job == b.job) = true ∧ (a.sex == b.sex) = false))) := by
        by_cases h : a.area = b.area ∧ a.job = b.job ∧ a.sex = b.sex
        · left; refine ⟨true, M3.out ?_, rfl, by simp [h.1], by simp [h.2.1], by simp [h.2.2]⟩
          obtain ⟨x, y, z⟩ := a; obtain ⟨x', y', z'⟩ := b; simp only at h; simp [h]
        · right; refine ⟨false, M4.out h, rfl, ?_⟩
          by_cases h1 : a.area = b.area
          · by_cases h2 : a.job = b.job
            · right; right; exact ⟨by simp [h1], by simp [h2], by rw [beq_eq_false_iff_ne]; exact fun h3 => h ⟨h1, h2, h3⟩⟩
            · right; left; exact ⟨by simp [h1], by rw [beq_eq_false_iff_ne]; exact h2⟩
          · left; rw [beq_eq_false_iff_ne]; exact h1
      rcases hcase with ⟨f, hf, hft, k1, k2, k3⟩ | ⟨f, hf, hft, k1 | ⟨k1, k2⟩ | ⟨k1, k2, k3⟩⟩
      all_goals
        subst hft
        have HFF := Lib.hid hf; clear hf
        go_wp2
        go_region_held3 (fun w' => Below w2.heap.size w2 w' ∧ (w'.cell? ⟨W.heap.size, 0, none⟩ = some (.int .i64 a.area) ∧ w'.cell? ⟨W.heap.size, 1, none⟩ = some (.int .i64 a.job) ∧ w'.cell? ⟨W.heap.size, 2, none⟩ = some (.int .i64 a.sex)) ∧ w'.cell? ⟨W.heap.size + 1, 0, none⟩ = some (.int .i64 b.area) ∧ w'.cell? ⟨W.heap.size + 1, 1, none⟩ = some (.int .i64 b.job) ∧ w'.cell? ⟨W.heap.size + 1, 2, none⟩ = some (.int .i64 b.sex))
          (first | exact HF.out _ (by assumption) | exact HF.out _ bd)
          (first
            | (go_at_call 25
               with_reducible refine (iFiner_is w2 ll _ HU2.out b a _ HFF.out _ bd).mono ?_
               rintro e w3 ⟨rfl, b3⟩)
            | (go_at_call 25
               with_reducible refine (iFiner_is w2 ll _ HU2.out a a _ M1.out _ b3).mono ?_
               rintro e w4 ⟨rfl, b4⟩)
            | (go_at_call 25
               with_reducible refine (iFiner_is w2 ll _ HU2.out ⟨0, 0, 0⟩ b _ M2.out _ b4).mono ?_
               rintro e w5 ⟨rfl, b5⟩))
        go_wp2
        go_ret
        exact ⟨by first | rfl | exact retb (by simp), HB.out.trans ((b2.trans (b5.mono b2.size)).mono HB.out.size)⟩
theorem isP_three (w : World) (l : List Pn) (hl : l.length = 3) : IsP (w.alloc (.cells (pcells l).toArray TP)) (.slice (some ⟨w.heap.size, 0, none⟩) 3 3) l :=
  ⟨some ⟨w.heap.size, 0, none⟩, 3, by rw [hl], by omega, by simp [maxLen], .inr ⟨w.heap.size, 0, rfl, by simp, fun j u hu => by
    rw [Nat.zero_add, cell_of_row _ _ j (pcells l).toArray TP (0, 0) (heap_alloc_new w _)]; simpa using hu⟩⟩
set_option maxHeartbeats 4000000 in
theorem w_RecodeChain (A : Option Addr) (n c : Nat) (hnc : n ≤ c) (hn : n ≤ maxLen) (A2 : Option Addr) (m c2 : Nat) (_hmc : m ≤ c2) (hm : m ≤ maxLen) (w : World) (hb : Bytes w w.heap.size A n) (_hb2 : Bytes w w.heap.size A2 m) :
    Calls Try.prog 11 #[.slice A n c, .slice A2 m c2] w fun e w' => e = .returned (.bool true) ∧ Below w.heap.size w w' := by
  have hn2 := hn
  have hm2 := hm
  unfold maxLen at hn2 hm2
  rcases (show 1048576 < n ∨ (¬ 1048576 < n ∧ 1048576 < m) ∨ ¬ 1048576 < n ∧ ¬ 1048576 < m by omega) with hbig | ⟨hbig, hbig2⟩ | ⟨hbig, hbig2⟩
  · go_enter Try.func11, Try.ntmps11
    go_wp2
    go_ret
    exact ⟨rfl, Below.refl _ _⟩
  · go_enter Try.func11, Try.ntmps11
    go_wp2
    go_ret
    exact ⟨rfl, Below.refl _ _⟩
  · go_enter Try.func11, Try.ntmps11
    go_wp2_with fail
    refine (dRcFiner_any A n c hnc hn _ hb).mono ?_
    rintro e W ⟨ll, u, a, b, rfl, hu, hll, hbW⟩
    obtain ⟨W1, hW⟩ : ∃ W1, W1 = (W.alloc (.cells #[.int .i64 a.area, .int .i64 a.job, .int .i64 a.sex] TRc)).alloc (.cells #[.int .i64 b.area, .int .i64 b.job, .int .i64 b.sex] TRc) := ⟨_, rfl⟩
    have hb1 : Below W.heap.size W W1 := by rw [hW]; exact ((Below.refl _ _).alloc (Nat.le_refl _) _).alloc (by simp) _
    have Ae0 : W1.cell? ⟨W.heap.size, 0, none⟩ = some (.int .i64 a.area) := by rw [hW]; simp [go_sem]
    have Ae1 : W1.cell? ⟨W.heap.size, 1, none⟩ = some (.int .i64 a.job) := by rw [hW]; simp [go_sem]
    have Ae2 : W1.cell? ⟨W.heap.size, 2, none⟩ = some (.int .i64 a.sex) := by rw [hW]; simp [go_sem]
    have hzA : W.heap.size < W1.heap.size := by rw [hW]; simp <;> omega
    have HA := Lib.hid (show ∀ w', Below W1.heap.size W1 w' → w'.cell? ⟨W.heap.size, 0, none⟩ = some (.int .i64 a.area) ∧ w'.cell? ⟨W.heap.size, 1, none⟩ = some (.int .i64 a.job) ∧ w'.cell? ⟨W.heap.size, 2, none⟩ = some (.int .i64 a.sex) from fun w' h => ⟨(h.cell (p := ⟨W.heap.size, 0, none⟩) hzA).trans Ae0, (h.cell (p := ⟨W.heap.size, 1, none⟩) hzA).trans Ae1, (h.cell (p := ⟨W.heap.size, 2, none⟩) hzA).trans Ae2⟩)
    clear Ae0 Ae1 Ae2
    have Be0 : W1.cell? ⟨W.heap.size + 1, 0, none⟩ = some (.int .i64 b.area) := by rw [hW]; simp [go_sem]
    have Be1 : W1.cell? ⟨W.heap.size + 1, 1, none⟩ = some (.int .i64 b.job) := by rw [hW]; simp [go_sem]
    have Be2 : W1.cell? ⟨W.heap.size + 1, 2, none⟩ = some (.int .i64 b.sex) := by rw [hW]; simp [go_sem]
    have hzB : W.heap.size + 1 < W1.heap.size := by rw [hW]; simp <;> omega
    have HB' := Lib.hid (show ∀ w', Below W1.heap.size W1 w' → w'.cell? ⟨W.heap.size + 1, 0, none⟩ = some (.int .i64 b.area) ∧ w'.cell? ⟨W.heap.size + 1, 1, none⟩ = some (.int .i64 b.job) ∧ w'.cell? ⟨W.heap.size + 1, 2, none⟩ = some (.int .i64 b.sex) from fun w' h => ⟨(h.cell (p := ⟨W.heap.size + 1, 0, none⟩) hzB).trans Be0, (h.cell (p := ⟨W.heap.size + 1, 1, none⟩) hzB).trans Be1, (h.cell (p := ⟨W.heap.size + 1, 2, none⟩) hzB).trans Be2⟩)
    clear Be0 Be1 Be2
    have HU := Lib.hid (hu.below hb1)
    have HB := Lib.hid (hbW.trans (hb1.mono hbW.size))
    have b0 := Below.refl W1.heap.size W1
    clear hu hbW hb hb1
    obtain ⟨Au, cu, hu2, _, _, _⟩ := HU.out
    subst hu2
    cases hok : rcFiner ll a b
    · have HG := Lib.hid hok; clear hok
      go_wp2_with fail
      rw [← hW]
      clear hW
      refine (iFiner_is W1 ll _ HU.out a b _ HG.out _ b0).mono ?_
      rintro e w1 ⟨rfl, b1⟩
      obtain ⟨c0, c1, c2⟩ := HA.out _ b1
      obtain ⟨d0, d1, d2⟩ := HB'.out _ b1
      go_wp2_with fail
      refine (sFiner_is W1 ll _ HU.out a b _ HG.out _ b1).mono ?_
      rintro e w2 ⟨rfl, b2⟩
      go_wp2
      go_ret
      exact ⟨by first | rfl | exact retb (by simp) | exact retb (by simp; omega), HB.out.trans (b2.mono HB.out.size)⟩
    · have HG := Lib.hid hok
      obtain ⟨h1, h2, h3, h4, h5⟩ := finer_parts.1 hok
      have HFR := Lib.hid (show finer a b from ⟨h3, h4, h5⟩)
      have HRA := Lib.hid h1; have HRB := Lib.hid h2
      clear h1 h2 h3 h4 h5
      obtain ⟨x1, hx1⟩ : ∃ x : Int, (m : Int) % 4 = x := ⟨_, rfl⟩
      obtain ⟨x2, hx2⟩ : ∃ x : Int, (m : Int) / 4 % 4 = x := ⟨_, rfl⟩
      obtain ⟨x3, hx3⟩ : ∃ x : Int, (m : Int) / 16 % 2 = x := ⟨_, rfl⟩
      obtain ⟨x4, hx4⟩ : ∃ x : Int, (m : Int) / 2 % 4 = x := ⟨_, rfl⟩
      have hb1 : 0 ≤ x1 ∧ x1 ≤ 3 ∧ 0 ≤ x2 ∧ x2 ≤ 3 ∧ 0 ≤ x3 ∧ x3 ≤ 1 ∧ 0 ≤ x4 ∧ x4 ≤ 3 := by omega
      obtain ⟨l, hl⟩ : ∃ l : List Pn, l = [⟨x1, x2, x3, 7⟩, ⟨3, 2, 1, 9⟩, ⟨x4, 1, 0, 0⟩] := ⟨_, rfl⟩
      have hlo : okL l = true := by
        rw [hl]; refine okL_mk (by simp) fun p hp => ?_
        rw [okP_parts]
        simp only [List.mem_cons, List.not_mem_nil, or_false] at hp
        rcases hp with rfl | rfl | rfl <;> simp only <;> omega
      have HLL := Lib.hid (show l.length = 3 by rw [hl]; rfl)
      have hgA : grOk l ll a = true := gr_parts.2 ⟨hlo, HRA.out⟩
      have hgB : grOk l ll b = true := gr_parts.2 ⟨hlo, HRB.out⟩
      have hgY : grOk (recL ll a l) ll b = true := gr_parts.2 ⟨recL_ok hgA, HRB.out⟩
      have GA := Lib.hid hgA; have GB := Lib.hid hgB; have GY := Lib.hid hgY
      have EA := Lib.hid (show recOut l ll a = recL ll a l by rw [recOut, if_pos hgA])
      have EB := Lib.hid (show recOut l ll b = recL ll b l by rw [recOut, if_pos hgB])
      have EY := Lib.hid (show recOut (recL ll a l) ll b = recL ll b l by rw [recOut, if_pos hgY, recL_chain hlo HRA.out HRB.out HFR.out])
      have HLR := Lib.hid (show (recL ll b l).length ≤ 1000000 by rw [recL_len, HLL.out]; omega)
      have HX1 := Lib.hid hx1; have HX2 := Lib.hid hx2; have HX3 := Lib.hid hx3; have HX4 := Lib.hid hx4; have HLE := Lib.hid hl
      clear hx1 hx2 hx3 hx4 hb1 hl hlo hgA hgB hgY
      clear hok
      go_wp2_with fail
      rw [← hW]
      clear hW
      refine (iFiner_is W1 ll _ HU.out a b _ HG.out _ b0).mono ?_
      rintro e w1 ⟨rfl, b1⟩
      obtain ⟨c0, c1, c2⟩ := HA.out _ b1
      obtain ⟨d0, d1, d2⟩ := HB'.out _ b1
      go_wp2_with fail
      refine (sFiner_is W1 ll _ HU.out a b _ HG.out _ b1).mono ?_
      rintro e w2 ⟨rfl, b2⟩
      clear c0 c1 c2 d0 d1 d2
      obtain ⟨c0, c1, c2⟩ := HA.out _ b2
      obtain ⟨d0, d1, d2⟩ := HB'.out _ b2
      have hzA2 : W.heap.size < w2.heap.size := by have := b2.size; omega
      have hne1 : ¬ W.heap.size = w2.heap.size := by omega
      have hne2 : ¬ w2.heap.size = W.heap.size := by omega
      go_wp2_with fail
      rw [HX1.out, HX2.out, HX3.out, HX4.out]
      have hW3 : (.cells #[.int .i64 x1, .int .i64 x2, .int .i64 x3, .int .i64 7, .int .i64 3, .int .i64 2, .int .i64 1, .int .i64 9, .int .i64 x4, .int .i64 1, .int .i64 0, .int .i64 0] TP : Obj) = .cells (pcells l).toArray TP := by rw [HLE.out]; rfl
      rw [hW3]
      have HV := Lib.hid (isP_three w2 l HLL.out)
      have hb3 : Below w2.heap.size w2 (w2.alloc (.cells (pcells l).toArray TP)) := (Below.refl _ _).alloc (Nat.le_refl _) _
      have hs3 : w2.heap.size < (w2.alloc (.cells (pcells l).toArray TP)).heap.size := by simp
      obtain ⟨v, hv⟩ : ∃ v, v = Value.slice (some ⟨w2.heap.size, 0, none⟩) 3 3 := ⟨_, rfl⟩
      rw [← hv] at HV ⊢
      obtain ⟨W3, hW⟩ : ∃ W3, W3 = w2.alloc (.cells (pcells l).toArray TP) := ⟨_, rfl⟩
      rw [← hW] at HV hb3 hs3 ⊢
      have b3 : Below W1.heap.size W1 W3 := b2.trans (hb3.mono b2.size)
      clear hW3 hv hW hb3 hs3 c0 c1 c2 d0 d1 d2
      refine (iRecP_is W3 l v HV.out ll _ (HU.out.below b3) a (recL ll a l) true EA.out GA.out _ (Below.refl _ _)).mono ?_
      rintro e w4 ⟨y, rfl, hy, h4⟩
      have b4 := b3.trans (h4.mono b3.size)
      have HV4 := Lib.hid (HV.out.below h4)
      have HY4 := Lib.hid hy.is
      clear hy h4
      obtain ⟨d0, d1, d2⟩ := HB'.out _ b4
      go_wp2_with fail
      refine (iRecP_is w4 (recL ll a l) y HY4.out ll _ (HU.out.below b4) b (recL ll b l) true EY.out GY.out _ (Below.refl _ _)).mono ?_
      rintro e w5 ⟨z, rfl, hz, h5⟩
      have b5 := b4.trans (h5.mono b4.size)
      have HV5 := Lib.hid (HV4.out.below h5)
      have HZ5 := Lib.hid hz.is
      clear hz h5 d0 d1 d2
      obtain ⟨d0, d1, d2⟩ := HB'.out _ b5
      go_wp2_with fail
      refine (iRecP_is w5 l v HV5.out ll _ (HU.out.below b5) b (recL ll b l) true EB.out GB.out _ (Below.refl _ _)).mono ?_
      rintro e w6 ⟨x, rfl, hx, h6⟩
      have b6 := b5.trans (h6.mono b5.size)
      have HZ6 := Lib.hid (HZ5.out.below h6)
      have HX6 := Lib.hid hx.is
      clear hx h6 d0 d1 d2
      go_wp2_with fail
      refine (sameP_is w6 (recL ll b l) z x HLR.out HZ6.out HX6.out _ (Below.refl _ _)).mono ?_
      rintro e w7 ⟨rfl, h7⟩
      go_wp2
      go_ret
      exact ⟨by first | rfl | exact retb (by simp), HB.out.trans ((b6.trans (h7.mono b6.size)).mono HB.out.size)⟩
end Go.Proofs.Ytfcbnfemnfnadaa
