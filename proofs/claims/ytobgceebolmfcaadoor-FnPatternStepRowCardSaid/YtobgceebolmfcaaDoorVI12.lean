/- Contracts of the program: a step, given the demand's. -/
import Derived.Test.YtobgceebolmfcaaDoorVI11
import Derived.Test.YtobgceebolmfcaaDoorVM3
namespace Go.Proofs.YtobgceebolmfcaaDoor
open Go.RowKit
def MaskP (q d : Nat) (x : Mk) (z : Nat) : Prop := z < 65536 ∧ (∀ i : PB z, i.1.val / 4 < q ∧ i.1.val % 4 < d) ∧ (matM q d fun a b => z.testBit (4 * a + b)) = x
theorem mask_key0 {t : Tb} {x : Mk} (h : mkOk t x = true) : MaskP t.length (wd t) x (enc (hF x)) := by
  refine ⟨enc_lt _, fun i => ?_, mat_mask h⟩
  have h9 := i.2
  rw [enc_bit] at h9
  simp only [Bool.and_eq_true, decide_eq_true_eq] at h9
  exact mask_out h h9.2
theorem mask_key {t : Tb} {x : Mk} {q d z : Nat} (h : mkOk t x = true) (hq : t.length = q) (hd : wd t = d) (hz : z = enc (hF x)) : MaskP q d x z := by
  have h1 := mask_key0 h
  rw [hq, hd] at h1
  rw [hz]
  exact h1
/-- What the demand's step hands back. -/
def OutStp (r : Option Mk) (W : World) (e : Ending) (w' : World) : Prop := ∃ z : Nat, e = .returned (.tuple #[patV z, .bool r.isSome]) ∧ (∀ x, r = some x → z = enc (hF x)) ∧ Below W.heap.size W w'
def StepC : Prop := ∀ (W : World) (t : Tb) (v : Value) (_ : IsR W v t) (f m : Mk) (_ : mkOk t f = true) (_ : mkOk t m = true) (n : Int) (_ : 0 ≤ n ∧ n ≤ 99) (r : Option Mk) (_ : stepO t f m n = r) (w : World) (_ : Below W.heap.size W w) (_ : TabW W),
  Calls Tryd.prog 42 #[demV t.length (wd t) v (enc (hF f)) n, patV (enc (hF m))] w (OutStp r W)
set_option maxHeartbeats 2000000 in
theorem iPStep_of (hS : StepC) (W : World) (t : Tb) (v : Value) (hv : IsR W v t) (f : Mk) (u : Value) (hu : IsM W u f) (m : Mk) (u2 : Value) (hu2 : IsM W u2 m) (n : Int) (r : Option Mk) (hr : stepO t f m n = r) (w : World) (hb : Below W.heap.size W w) (hT : TabW W) :
    Calls Tryd.prog 14 #[v, u, u2, .int .i64 n] w (OutMT (r.getD []) r.isSome w) := by
  have hvw := hv.below hb
  have HU := Lib.hid (hu.below hb)
  have HU2 := Lib.hid (hu2.below hb)
  have HT := Lib.hid (hT.below hb)
  obtain ⟨A, c, rfl, _, _, _⟩ := id hvw
  obtain ⟨q, hq⟩ : ∃ q, t.length = q := ⟨_, rfl⟩
  obtain ⟨d, hd⟩ : ∃ d, wd t = d := ⟨_, rfl⟩
  have HQ := Lib.hid hq
  have HD := Lib.hid hd
  rw [hq] at hvw ⊢
  have HV := Lib.hid hvw
  have HR := Lib.hid hr
  clear hv hu hu2 hb hT hr hq hd hvw
  go_enter Tryd.func14, Tryd.ntmps14
  go_wp2_with fail
  refine (iDemW_is w t _ HV.out f _ HU.out m _ HU2.out n w (Below.refl _ _)).mono ?_
  rintro e w1 ⟨b1, ⟨h1, a, b, A', k', c', f', n', z, rfl⟩ | ⟨h1, rfl⟩⟩
  · obtain ⟨w2, hw2, b2, hz2, k2⟩ := one_blk w1 #[.int .i64 a, .int .i64 b, .slice A' k' c', .int .u64 f', .int .i64 n'] TDm
    have HE := Lib.hid (show r = none by rw [← HR.out]; exact step_low (by rw [needN_no h1]; omega))
    have hF2 := b1.trans (b2.mono b1.size)
    have HN := Lib.hid (show MineB (w2.alloc (.cells #[] TBS)) w.heap.size (w1.heap.size + 1 + 1) (.slice (some ⟨w1.heap.size + 1, 0, none⟩) 0 0) [] from by have := mineB_new (w := w2) hF2.size; rw [hz2] at this; exact this)
    have HF := Lib.hid (hF2.alloc hF2.size (.cells #[] TBS))
    have HW2 := Lib.hid hw2.symm
    clear b1 b2 hw2 h1 k2 hF2 hz2
    go_wp2
    rw [HW2.out]
    refine bodyPost_ret (results_tmp2 rfl _ _ _) rfl ?_
    rw [HE.out]
    exact ⟨_, rfl, HN.out.up, HF.out⟩
  · obtain ⟨hf, hm, hn0, hn9⟩ := pOk3_iff.1 h1
    have ht := mk_tab hm
    have ht4 := ht.h4
    have hw4 := ht.w4
    rw [HQ.out] at ht4
    rw [HD.out] at hw4
    have HMK := Lib.hid hm
    obtain ⟨w2, hw2, b2, hz2, k2⟩ := one_blk w1 #[.int .i64 t.length, .int .i64 (wd t), .slice A q c, patV (enc (hF f)), .int .i64 n] TDm
    have HB2 := Lib.hid (b1.trans (b2.mono b1.size))
    have HS := Lib.hid (hS w2 t _ (HV.out.below HB2.out) f m hf hm n ⟨hn0, hn9⟩ r HR.out w2 (Below.refl _ _) (HT.out.below HB2.out))
    have HW2 := Lib.hid hw2.symm
    obtain ⟨x0, x1, x2, x3, x4⟩ := blk5 k2
    have hlt : w1.heap.size < w2.heap.size := by omega
    have hpos : ∀ x, r = some x → mkOk t x = true := fun x e => (step_ok (HR.out.trans e)).2.1
    have HPOS := Lib.hid hpos
    generalize enc (hF f) = fp at *
    generalize enc (hF m) = mp at *
    rw [HQ.out, HD.out] at HS HW2 ⊢
    rw [HQ.out] at x0
    rw [HD.out] at x1
    have HX := Lib.hid (show ∀ X, Below w2.heap.size w2 X → X.cell? ⟨w1.heap.size, 0, none⟩ = some (.int .i64 q) ∧ X.cell? ⟨w1.heap.size, 1, none⟩ = some (.int .i64 d) from fun X h =>
      ⟨(h.cell (p := ⟨w1.heap.size, 0, none⟩) hlt).trans x0, (h.cell (p := ⟨w1.heap.size, 1, none⟩) hlt).trans x1⟩)
    rw [← HW2.out] at x0 x1 x2 x3 x4
    clear b1 b2 hw2 h1 hf hm k2 hpos
    go_wp2_with fail
    rw [HW2.out]
    refine HS.out.mono ?_
    rintro e w3 ⟨z, rfl, hz, b3⟩
    have HZ := Lib.hid hz
    obtain ⟨y0, y1⟩ := HX.out _ b3
    have hb3 := HB2.out.trans (b3.mono HB2.out.size)
    have HB3 := Lib.hid hb3
    clear b3 x0 x1 x2 x3 x4 hz
    cases r with
    | none =>
      have HN := Lib.hid (mineB_new (w := w3) hb3.size)
      have HF := Lib.hid (hb3.alloc hb3.size (.cells #[] TBS))
      clear hb3
      go_wp2
      refine bodyPost_ret (results_tmp2 rfl _ _ _) rfl ?_
      exact ⟨_, rfl, HN.out.up, HF.out⟩
    | some x =>
      have hzx : z = enc (hF x) := HZ.out x (Eq.refl _)
      obtain ⟨hz16, hzi, hzm⟩ := mask_key (HPOS.out x (Eq.refl _)) HQ.out HD.out hzx
      have HP := Lib.hid (iPMask_is q d ht4 hw4 z hz16 hzi x hzm w3 (HT.out.below hb3))
      clear hb3 hzx hz16 hzi hzm HZ HPOS
      go_wp2_with fail
      refine HP.out.mono ?_
      rintro e w4 ⟨v4, rfl, ho4, h4⟩
      have HO4 := Lib.hid (ho4.lowerM HB3.out.size)
      have HF := Lib.hid (HB3.out.trans (h4.mono HB3.out.size))
      clear ho4 h4 y0 y1
      go_wp2
      refine bodyPost_ret (results_tmp2 rfl _ _ _) rfl ?_
      exact ⟨v4, rfl, HO4.out, HF.out⟩
end Go.Proofs.YtobgceebolmfcaaDoor
