/- Contracts of the program: a mask as a pattern. Contracts of the program: demands. Contracts of the program: demands with a second mask. Contracts of the program: is a cell safe? Contracts of the program: the first cells that are not safe. Contracts of the program: PatternSafe, PatternNeed, PatternOk, PatternCost. -/
import Derived.Test.YtobgceebolmfcaaDoorVIA
import Derived.Test.YtobgceebolmfcaaDoorIMD
import Derived.Test.YtobgceebolmfcaaDoorWN0
import Derived.Test.YtobgceebolmfcaaDoorIVB
import Derived.Test.YtobgceebolmfcaaDoorRQ
import Derived.Test.YtobgceebolmfcaaDoorRF
namespace Go.Proofs.YtobgceebolmfcaaDoor
open Go.RowKit Go.Shelf
/-- The flags of what has come, row by row. -/
def upTo (h : Nat → Nat → Bool) (i j : Nat) : Nat → Nat → Bool := fun a b => h a b && (decide (a < i) || (decide (a = i) && decide (b < j)))
theorem upTo_zero (h : Nat → Nat → Bool) : enc (upTo h 0 0) = 0 := enc_eq0.2 fun a b _ _ => by simp [upTo]
theorem upTo_yes {h : Nat → Nat → Bool} {i j : Nat} (hi : i < 4) (hj : j < 4) (e : h i j = true) : enc (upTo h i j) ||| 2 ^ (4 * i + j) = enc (upTo h i (j + 1)) := by
  rw [bit_enc hi hj, or_enc]
  refine enc_ext fun a b _ _ => ?_
  by_cases h1 : a = i ∧ b = j
  · obtain ⟨rfl, rfl⟩ := h1
    simp [upTo, e]
  · have : (decide (a = i) && decide (b = j)) = false := by simp only [Bool.and_eq_false_iff, decide_eq_false_iff_not]; omega
    rw [this, Bool.or_false]
    unfold upTo
    congr 1
    rw [Bool.eq_iff_iff]
    simp only [Bool.or_eq_true, Bool.and_eq_true, decide_eq_true_eq]
    omega
theorem upTo_no {h : Nat → Nat → Bool} {i j : Nat} (e : h i j = false) : enc (upTo h i (j + 1)) = enc (upTo h i j) := by
  refine enc_ext fun a b _ _ => ?_
  by_cases h1 : a = i ∧ b = j
  · obtain ⟨rfl, rfl⟩ := h1
    simp [upTo, e]
  · unfold upTo
    congr 1
    rw [Bool.eq_iff_iff]
    simp only [Bool.or_eq_true, Bool.and_eq_true, decide_eq_true_eq]
    omega
theorem upTo_next {h : Nat → Nat → Bool} {i d : Nat} (e : ∀ b, d ≤ b → h i b = false) : enc (upTo h i d) = enc (upTo h (i + 1) 0) := by
  refine enc_ext fun a b _ _ => ?_
  by_cases h1 : a = i ∧ d ≤ b
  · obtain ⟨rfl, h2⟩ := h1
    simp [upTo, e b h2]
  · unfold upTo
    congr 1
    rw [Bool.eq_iff_iff]
    simp only [Bool.or_eq_true, Bool.and_eq_true, decide_eq_true_eq]
    omega
theorem upTo_all {h : Nat → Nat → Bool} {q : Nat} (e : ∀ a b, q ≤ a → h a b = false) : enc (upTo h q 0) = enc h := by
  refine enc_ext fun a b _ _ => ?_
  by_cases h1 : a < q
  · simp [upTo, h1]
  · have := e a b (by omega)
    simp [upTo, this]
theorem hF_out1 {m : Mk} {a b : Nat} (h : m.length ≤ a) : hF m a b = false := by
  have e : m.getD a [] = [] := by rw [List.getD_eq_getElem?_getD, List.getElem?_eq_none h]; rfl
  unfold hF
  rw [e]; rfl
theorem hF_out2 {m : Mk} {a b : Nat} (h : (m.getD a []).length ≤ b) : hF m a b = false := by
  unfold hF
  rw [List.getD_eq_getElem?_getD (l := m.getD a []), List.getElem?_eq_none h]; rfl
/-- A mask as a pattern. -/
def encM (m : Mk) (g : Bool) : Nat := if g = true then enc (hF m) else 0
theorem encM_yes (m : Mk) : encM m true = enc (hF m) := rfl
theorem encM_no (m : Mk) : encM m false = 0 := rfl
set_option maxRecDepth 100000 in
set_option maxHeartbeats 2000000 in
theorem iPOf_is (W : World) (t : Tb) (v : Value) (hv : IsR W v t) (m : Mk) (u : Value) (hu : IsM W u m) (g : Bool) (hg : mkOk t m = g) (w : World) (hb : Below W.heap.size W w) :
    Calls Tryd.prog 54 #[v, u] w (Back (.tuple #[patV (encM m g), .bool g]) W) := by
  have HV := Lib.hid hv
  have HU := Lib.hid hu
  have HB := Lib.hid hb
  have HMK := Lib.hid hg
  cases g
  · rw [encM_no]
    clear hv hu hb hg
    go_enter Tryd.func54, Tryd.ntmps54
    go_wp2_with fail
    refine (iMask_is W t _ HV.out m _ HU.out false HMK.out _ HB.out).mono ?_
    rintro e w1 ⟨rfl, b1⟩
    go_wp2
    refine bodyPost_ret (results_tmp2 rfl _ _ _) rfl ?_
    exact ⟨rfl, b1⟩
  have ht := mk_tab hg
  obtain ⟨q, hq⟩ : ∃ q, t.length = q := ⟨_, rfl⟩
  obtain ⟨d, hd⟩ : ∃ d, wd t = d := ⟨_, rfl⟩
  have hml := mk_len hg
  have hmr : ∀ r ∈ m, r.length = d := by rw [← hd]; exact (mk_parts.1 hg).2.2
  have hmrow : ∀ k, k < q → (m.getD k []).length = d := fun k hk => by rw [mk_row hg (by omega), hd]
  have h1 := ht.h1
  have h4 := ht.h4
  have w1' := ht.w1
  have w4 := ht.w4
  rw [hq] at hml h1 h4
  rw [hd] at w1' w4
  obtain ⟨b, o, c, rb, ro, rc, hvu, hall⟩ := hu.all (d := d) (by omega) (by omega) hmr
  rw [hml] at hvu hall
  subst hvu
  have HALL := Lib.hid hall
  have HFIN := Lib.hid (show enc (upTo (hF m) q 0) = encM m true by rw [encM_yes]; exact upTo_all fun a b h => hF_out1 (by omega))
  have HNEXT := Lib.hid (show ∀ k, k < q → enc (upTo (hF m) k d) = enc (upTo (hF m) (k + 1) 0) from fun k hk => upTo_next fun b hb => hF_out2 (by rw [hmrow k hk]; exact hb))
  clear hv hu hb hg ht hq hd hml hmr hmrow hall
  go_enter Tryd.func54, Tryd.ntmps54
  go_wp2_with fail
  refine (iMask_is W t _ HV.out m _ HU.out true HMK.out _ HB.out).mono ?_
  rintro e w1 ⟨rfl, b1⟩
  have HB1 := Lib.hid b1
  clear b1
  go_wp2
  go_loopw [6, 17] (fun s i wr => ∃ k : Nat, k ≤ q ∧ i = .int .i64 k ∧ s = patV (enc (upTo (hF m) k 0)) ∧ Below W.heap.size W wr) (fun _ i _ => q - (intOf i).toNat)
  case atStart => exact ⟨0, Nat.zero_le _, rfl, by rw [upTo_zero]; rfl, HB1.out⟩
  case round =>
    obtain ⟨k, hk, rfl, rfl, hbr⟩ := hrel
    have HBR := Lib.hid hbr
    by_cases hlt : k < q
    · have hki : (k : Int) < (q : Int) := by omega
      have e1 := (HALL.out wr hbr).1 k hlt
      obtain ⟨s0, hs0⟩ : ∃ s0, enc (upTo (hF m) k 0) = s0 := ⟨_, rfl⟩
      rw [hs0]
      have HS0 := Lib.hid hs0
      clear hbr hs0
      go_wp2
      go_loopw [6, 24] (fun s j wr' => ∃ l : Nat, l ≤ d ∧ j = .int .i64 l ∧ s = patV (enc (upTo (hF m) k l)) ∧ Below W.heap.size W wr') (fun _ j _ => d - (intOf j).toNat)
      case atStart => exact ⟨0, Nat.zero_le _, rfl, by rw [HS0.out], HBR.out⟩
      case round =>
        clear HBR HS0 e1
        obtain ⟨l, hl, rfl, rfl, hbr⟩ := hrel
        have HBR := Lib.hid hbr
        by_cases hlt2 : l < d
        · have hli : (l : Int) < (d : Int) := by omega
          have e2 := (HALL.out _ hbr).2 k l hlt hlt2
          obtain ⟨fl, hfl⟩ : ∃ fl, hF m k l = fl := ⟨_, rfl⟩
          rw [hfl] at e2
          cases fl
          · have HN := Lib.hid (upTo_no hfl)
            clear hbr hfl
            go_wp2
            go_roundw
            case rel => exact ⟨l + 1, by omega, by go_num, by rw [HN.out], HBR.out⟩
            case measure => simp [intOf]; omega
          · have HY := Lib.hid (upTo_yes (h := hF m) (show k < 4 by omega) (show l < 4 by omega) hfl)
            have hint := or_int (enc_lt (upTo (hF m) k l)) (bit_lt (show 4 * k + l < 16 by omega))
            obtain ⟨s1, hs1⟩ : ∃ s1, enc (upTo (hF m) k l) = s1 := ⟨_, rfl⟩
            obtain ⟨z1, hz1⟩ : ∃ z1, 2 ^ (4 * k + l) = z1 := ⟨_, rfl⟩
            have HZ1 := Lib.hid hz1
            rw [hs1, hz1] at hint HY
            rw [hs1]
            clear hbr hfl hs1 hz1
            go_wp2_with fail
            refine (iBit_as k l (by omega) (by omega) z1 HZ1.out _).mono ?_
            rintro e w5 ⟨rfl, b5⟩
            have HB5 := Lib.hid (below_step HBR.out b5)
            clear b5 e2
            go_wp2
            go_roundw
            case rel => exact ⟨l + 1, by omega, by go_num, by rw [← HY.out], HB5.out⟩
            case measure => simp [intOf]; omega
        · obtain rfl : l = d := by omega
          have hli : ¬ (l : Int) < (l : Int) := by omega
          have HN := Lib.hid (HNEXT.out k hlt)
          clear hbr
          go_wp2
          go_roundw
          case rel => exact ⟨k + 1, by omega, by go_num, by rw [HN.out], HBR.out⟩
          case measure => simp [intOf]; omega
    · obtain rfl : k = q := by omega
      have hki : ¬ (k : Int) < (k : Int) := by omega
      have HF := Lib.hid HFIN.out
      rw [HF.out]
      clear hbr
      go_wp2
      refine bodyPost_ret (results_tmp2 rfl _ _ _) rfl ?_
      exact ⟨rfl, HBR.out⟩
end Go.Proofs.YtobgceebolmfcaaDoor
namespace Go.Proofs.YtobgceebolmfcaaDoor
open Go.RowKit Go.Shelf
abbrev TDm : TypeId := 63
/-- A demand, by value. -/
abbrev demX (a b : Int) (v : Value) (f : Int) (n : Int) : Value := .agg #[.int .i64 a, .int .i64 b, v, .int .u64 f, .int .i64 n]
abbrev demV (q d : Nat) (v : Value) (f : Nat) (n : Int) : Value := demX q d v f n
def demOk (t : Tb) (f : Mk) (n : Int) : Bool := mkOk t f && in3 n 0 99
theorem demOk_iff {t : Tb} {f : Mk} {n : Int} : demOk t f n = true ↔ mkOk t f = true ∧ 0 ≤ n ∧ n ≤ 99 := by simp only [demOk, in3, Bool.and_eq_true, decide_eq_true_eq]
theorem blk5 {w : World} {g : Nat} {t : TypeId} {a b c d e : Value} (h : w.heap[g]? = some (.cells #[a, b, c, d, e] t (0, 0))) :
    w.cell? ⟨g, 0, none⟩ = some a ∧ w.cell? ⟨g, 1, none⟩ = some b ∧ w.cell? ⟨g, 2, none⟩ = some c ∧ w.cell? ⟨g, 3, none⟩ = some d ∧ w.cell? ⟨g, 4, none⟩ = some e := by
  refine ⟨?_, ?_, ?_, ?_, ?_⟩ <;> simp [World.cell?, h]
theorem blk5f {w : World} {g : Nat} {t : TypeId} {a b c d e : Value} (h : w.heap[g]? = some (.cells #[a, b, c, d, e] t (0, 0))) :
    w.frozen? ⟨g, 0, none⟩ = false ∧ w.frozen? ⟨g, 1, none⟩ = false ∧ w.frozen? ⟨g, 2, none⟩ = false ∧ w.frozen? ⟨g, 3, none⟩ = false ∧ w.frozen? ⟨g, 4, none⟩ = false := by
  refine ⟨?_, ?_, ?_, ?_, ?_⟩ <;> simp [World.frozen?, h]
theorem set5 {w X : World} {g N : Nat} (h : Below N w X) (hN : N ≤ g) (a b c d e : Value) :
    Below N w (((((X.setCell ⟨g, 0, none⟩ a).setCell ⟨g, 1, none⟩ b).setCell ⟨g, 2, none⟩ c).setCell ⟨g, 3, none⟩ d).setCell ⟨g, 4, none⟩ e) :=
  ((((h.setCell (p := ⟨g, 0, none⟩) hN a).setCell (p := ⟨g, 1, none⟩) hN b).setCell (p := ⟨g, 2, none⟩) hN c).setCell (p := ⟨g, 3, none⟩) hN d).setCell (p := ⟨g, 4, none⟩) hN e
/-- What is told of a demand. -/
def OutD (t : Tb) (v : Value) (f : Mk) (n : Int) (W : World) (e : Ending) (w' : World) : Prop := Below W.heap.size W w' ∧
  ((demOk t f n = false ∧ ∃ a b A k c f' n', e = .returned (.tuple #[demX a b (.slice A k c) f' n', .bool false])) ∨ (demOk t f n = true ∧ e = .returned (.tuple #[demV t.length (wd t) v (enc (hF f)) n, .bool true])))
set_option maxRecDepth 100000 in
set_option maxHeartbeats 2000000 in
theorem iDem_is (W : World) (t : Tb) (v : Value) (hv : IsR W v t) (f : Mk) (u : Value) (hu : IsM W u f) (n : Int) (w : World) (hb : Below W.heap.size W w) :
    Calls Tryd.prog 50 #[v, u, .int .i64 n] w (OutD t v f n W) := by
  obtain ⟨w0, hw0, b0, hz0, k0⟩ := one_blk w #[.int .i64 0, .int .i64 0, .slice none 0 0, .int .u64 0, .int .i64 0] TDm
  obtain ⟨A, c, rfl, _, _, _⟩ := id hv
  obtain ⟨q, hq⟩ : ∃ q, t.length = q := ⟨_, rfl⟩
  obtain ⟨d, hd⟩ : ∃ d, wd t = d := ⟨_, rfl⟩
  have HQ := Lib.hid hq
  have HD := Lib.hid hd
  rw [hq] at hv ⊢
  have HV := Lib.hid hv
  have HU := Lib.hid hu
  have HB0 := Lib.hid (hb.trans (b0.mono hb.size))
  have HW0 := Lib.hid hw0.symm
  have HK0 := Lib.hid (show ∀ X, Below w0.heap.size w0 X → X.heap[w.heap.size]? = some (.cells #[.int .i64 0, .int .i64 0, .slice none 0 0, .int .u64 0, .int .i64 0] TDm (0, 0)) from fun X h => (h.block _ (by omega)).trans k0)
  have hz := hb.size
  obtain ⟨g, hg⟩ : ∃ g, tabOk t = g := ⟨_, rfl⟩
  have HG := Lib.hid hg
  clear hv hu hb hw0 b0 hq hd
  have hno : (tabOk t = false ∨ n < 0 ∨ 99 < n) → demOk t f n = false := fun h => by
    cases e : demOk t f n
    · rfl
    · have h1 := demOk_iff.1 e
      have h2 := tab_iff.2 (mk_tab h1.1)
      rcases h with h | h
      · rw [h2] at h; cases h
      · omega
  cases g
  · have HE := Lib.hid (hno (.inl hg))
    clear hg hno
    go_enter Tryd.func50, Tryd.ntmps50
    go_wp2_with fail
    rw [HW0.out]
    go_wp2_with fail
    refine (iTGrid_is w0 t _ (HV.out.below HB0.out) false HG.out w0 (Below.refl _ _)).mono ?_
    rintro e w1 ⟨rfl, b1⟩
    rw [gridV_no]
    obtain ⟨w2, hw2, b2, hz2, _⟩ := one_blk w1 #[.int .i64 0, .int .i64 0, .slice none 0 0] TGI
    have HW2 := Lib.hid hw2.symm
    have b02 := b1.trans (b2.mono b1.size)
    obtain ⟨c0, c1, c2, c3, c4⟩ := blk5 (HK0.out w2 b02)
    obtain ⟨f0, f1, f2, f3, f4⟩ := blk5f (HK0.out w2 b02)
    have HF := Lib.hid (HB0.out.trans (b02.mono HB0.out.size))
    clear b1 b2 b02 hw2
    rw [← HW2.out] at c0 c1 c2 c3 c4 f0 f1 f2 f3 f4
    go_wp2
    rw [HW2.out]
    refine bodyPost_ret (v := .tuple #[demX 0 0 (.slice none 0 0) 0 0, .bool false]) (by rw [HW2.out] at c0 c1 c2 c3 c4 f0 f1 f2 f3 f4; simp [results, Tryd.results50, go_sem, *]) rfl ?_
    exact ⟨set5 HF.out hz _ _ _ _ _, .inl ⟨HE.out, _, _, _, _, _, _, _, rfl⟩⟩
  have ht := tab_iff.1 hg
  have hq1 : 0 < q := by have := ht.h1; have := HQ.out; omega
  obtain ⟨mk, hmk⟩ : ∃ mk, mkOk t f = mk := ⟨_, rfl⟩
  have HMK := Lib.hid hmk
  have HNO := Lib.hid hno
  have HDK := Lib.hid (show 0 ≤ n → n ≤ 99 → demOk t f n = mk from fun h1 h2 => by rw [demOk, hmk]; simp [in3, h1, h2])
  clear hg hno ht hmk
  go_enter Tryd.func50, Tryd.ntmps50
  go_wp2_with fail
  rw [HW0.out]
  go_wp2_with fail
  refine (iTGrid_is w0 t _ (HV.out.below HB0.out) true HG.out w0 (Below.refl _ _)).mono ?_
  rintro e w1 ⟨rfl, b1⟩
  rw [gridV_yes, HQ.out, HD.out]
  obtain ⟨w2, hw2, b2, hz2, k2⟩ := one_blk w1 #[.int .i64 q, .int .i64 d, .slice A q c] TGI
  have HW2 := Lib.hid hw2.symm
  have b02 := b1.trans (b2.mono b1.size)
  have HB2 := Lib.hid (HB0.out.trans (b02.mono HB0.out.size))
  have HB02 := Lib.hid b02
  have HK2 := Lib.hid (show ∀ X, Below w2.heap.size w2 X → X.heap[w1.heap.size]? = some (.cells #[.int .i64 q, .int .i64 d, .slice A q c] TGI (0, 0)) from fun X h => (h.block _ (by omega)).trans k2)
  clear hw2 b2 b02 k2 b1
  rcases (show n < 0 ∨ (¬ n < 0 ∧ 99 < n) ∨ (¬ n < 0 ∧ ¬ 99 < n) by omega) with hn | ⟨hn, hn2⟩ | ⟨hn, hn2⟩
  · have HE := Lib.hid (HNO.out (.inr (.inl hn)))
    obtain ⟨c0, c1, c2, c3, c4⟩ := blk5 (HK0.out w2 HB02.out)
    obtain ⟨f0, f1, f2, f3, f4⟩ := blk5f (HK0.out w2 HB02.out)
    rw [← HW2.out] at c0 c1 c2 c3 c4 f0 f1 f2 f3 f4
    go_wp2
    rw [HW2.out]
    refine bodyPost_ret (v := .tuple #[demX 0 0 (.slice none 0 0) 0 0, .bool false]) (by rw [HW2.out] at c0 c1 c2 c3 c4 f0 f1 f2 f3 f4; simp [results, Tryd.results50, go_sem, *]) rfl ?_
    exact ⟨set5 HB2.out hz _ _ _ _ _, .inl ⟨HE.out, _, _, _, _, _, _, _, rfl⟩⟩
  · have HE := Lib.hid (HNO.out (.inr (.inr hn2)))
    obtain ⟨c0, c1, c2, c3, c4⟩ := blk5 (HK0.out w2 HB02.out)
    obtain ⟨f0, f1, f2, f3, f4⟩ := blk5f (HK0.out w2 HB02.out)
    rw [← HW2.out] at c0 c1 c2 c3 c4 f0 f1 f2 f3 f4
    go_wp2
    rw [HW2.out]
    refine bodyPost_ret (v := .tuple #[demX 0 0 (.slice none 0 0) 0 0, .bool false]) (by rw [HW2.out] at c0 c1 c2 c3 c4 f0 f1 f2 f3 f4; simp [results, Tryd.results50, go_sem, *]) rfl ?_
    exact ⟨set5 HB2.out hz _ _ _ _ _, .inl ⟨HE.out, _, _, _, _, _, _, _, rfl⟩⟩
  · go_wp2_with fail
    rw [HW2.out]
    refine (iPOf_is w2 t _ (HV.out.below HB2.out) f _ (HU.out.below HB2.out) mk HMK.out w2 (Below.refl _ _)).mono ?_
    rintro e w3 ⟨rfl, b3⟩
    have b03 := HB02.out.trans (b3.mono HB02.out.size)
    obtain ⟨c0, c1, c2, c3, c4⟩ := blk5 (HK0.out w3 b03)
    obtain ⟨f0, f1, f2, f3, f4⟩ := blk5f (HK0.out w3 b03)
    obtain ⟨e0, e1, e2, _, _, _⟩ := blkG3 (HK2.out w3 b3)
    have HB3 := Lib.hid (HB0.out.trans (b03.mono HB0.out.size))
    obtain ⟨fp, hfp⟩ : ∃ fp, encM f mk = fp := ⟨_, rfl⟩
    have HFP := Lib.hid hfp
    have HE := Lib.hid (HDK.out (by omega) (by omega))
    rw [hfp]
    clear b3 b03 hfp
    go_wp2
    refine bodyPost_ret (v := .tuple #[demX q d (.slice A q c) fp n, .bool mk]) (by simp [results, Tryd.results50, go_sem, *]) rfl ?_
    refine ⟨set5 HB3.out hz _ _ _ _ _, ?_⟩
    cases mk
    · exact .inl ⟨HE.out, _, _, _, _, _, _, _, rfl⟩
    · exact .inr ⟨HE.out, by rw [← HFP.out, encM_yes, HQ.out, HD.out]⟩
end Go.Proofs.YtobgceebolmfcaaDoor
namespace Go.Proofs.YtobgceebolmfcaaDoor
open Go.RowKit Go.Shelf
def OutDW (t : Tb) (v : Value) (f m : Mk) (n : Int) (W : World) (e : Ending) (w' : World) : Prop := Below W.heap.size W w' ∧
  ((pOk3 t f m n = false ∧ ∃ a b A k c f' n' z, e = .returned (.tuple #[demX a b (.slice A k c) f' n', .int .u64 z, .bool false])) ∨ (pOk3 t f m n = true ∧ e = .returned (.tuple #[demV t.length (wd t) v (enc (hF f)) n, patV (enc (hF m)), .bool true])))
theorem ok3_dem {t : Tb} {f m : Mk} {n : Int} : pOk3 t f m n = (demOk t f n && mkOk t m) := by
  rw [pOk3, demOk]
  generalize mkOk t f = a
  generalize mkOk t m = b
  generalize in3 n 0 99 = c
  revert a b c; decide
set_option maxRecDepth 100000 in
set_option maxHeartbeats 2000000 in
theorem iDemW_is (W : World) (t : Tb) (v : Value) (hv : IsR W v t) (f : Mk) (u : Value) (hu : IsM W u f) (m : Mk) (u2 : Value) (hu2 : IsM W u2 m) (n : Int) (w : World) (hb : Below W.heap.size W w) :
    Calls Tryd.prog 41 #[v, u, u2, .int .i64 n] w (OutDW t v f m n W) := by
  obtain ⟨w0, hw0, b0, hz0, k0⟩ := one_blk w #[.int .i64 0, .int .i64 0, .slice none 0 0, .int .u64 0, .int .i64 0] TDm
  obtain ⟨A, c, rfl, _, _, _⟩ := id hv
  obtain ⟨q, hq⟩ : ∃ q, t.length = q := ⟨_, rfl⟩
  obtain ⟨d, hd⟩ : ∃ d, wd t = d := ⟨_, rfl⟩
  have HQ := Lib.hid hq
  have HD := Lib.hid hd
  rw [hq] at hv ⊢
  have HV := Lib.hid hv
  have HU := Lib.hid hu
  have HU2 := Lib.hid hu2
  have HB0 := Lib.hid (hb.trans (b0.mono hb.size))
  have HW0 := Lib.hid hw0.symm
  have HK0 := Lib.hid (show ∀ X, Below w0.heap.size w0 X → X.heap[w.heap.size]? = some (.cells #[.int .i64 0, .int .i64 0, .slice none 0 0, .int .u64 0, .int .i64 0] TDm (0, 0)) from fun X h => (h.block _ (by omega)).trans k0)
  have hz := hb.size
  clear hv hu hu2 hb hw0 b0 hq hd
  go_enter Tryd.func41, Tryd.ntmps41
  go_wp2_with fail
  rw [HW0.out]
  refine (iDem_is w0 t _ (HV.out.below HB0.out) f _ (HU.out.below HB0.out) n w0 (Below.refl _ _)).mono ?_
  rintro e w1 ⟨b1, ⟨h1, a, b, A', k', c', f', n', rfl⟩ | ⟨h1, rfl⟩⟩
  · obtain ⟨w2, hw2, b2, hz2, k2⟩ := one_blk w1 #[.int .i64 a, .int .i64 b, .slice A' k' c', .int .u64 f', .int .i64 n'] TDm
    have HW2 := Lib.hid hw2.symm
    have b02 := b1.trans (b2.mono b1.size)
    obtain ⟨c0, c1, c2, c3, c4⟩ := blk5 (HK0.out w2 b02)
    obtain ⟨f0, f1, f2, f3, f4⟩ := blk5f (HK0.out w2 b02)
    have HF := Lib.hid (HB0.out.trans (b02.mono HB0.out.size))
    have HE := Lib.hid (show pOk3 t f m n = false by rw [ok3_dem, h1]; rfl)
    clear b1 b2 b02 hw2 h1 k2
    rw [← HW2.out] at c0 c1 c2 c3 c4 f0 f1 f2 f3 f4
    go_wp2
    rw [HW2.out]
    refine bodyPost_ret (v := .tuple #[demX 0 0 (.slice none 0 0) 0 0, .int .u64 0, .bool false]) (by rw [HW2.out] at c0 c1 c2 c3 c4 f0 f1 f2 f3 f4; simp [results, Tryd.results41, go_sem, *]) rfl ?_
    exact ⟨set5 HF.out hz _ _ _ _ _, .inl ⟨HE.out, _, _, _, _, _, _, _, _, rfl⟩⟩
  · obtain ⟨fp, hfp⟩ : ∃ fp, enc (hF f) = fp := ⟨_, rfl⟩
    have HFP := Lib.hid hfp
    obtain ⟨mk, hmk⟩ : ∃ mk, mkOk t m = mk := ⟨_, rfl⟩
    have HMK := Lib.hid hmk
    have HE := Lib.hid (show pOk3 t f m n = mk by rw [ok3_dem, h1, hmk]; rfl)
    rw [HQ.out, HD.out, hfp]
    obtain ⟨w2, hw2, b2, hz2, k2⟩ := one_blk w1 #[.int .i64 q, .int .i64 d, .slice A q c, patV fp, .int .i64 n] TDm
    have HW2 := Lib.hid hw2.symm
    have b02 := b1.trans (b2.mono b1.size)
    have HB2 := Lib.hid (HB0.out.trans (b02.mono HB0.out.size))
    have HB02 := Lib.hid b02
    have HK2 := Lib.hid (show ∀ X, Below w2.heap.size w2 X → X.heap[w1.heap.size]? = some (.cells #[.int .i64 q, .int .i64 d, .slice A q c, patV fp, .int .i64 n] TDm (0, 0)) from fun X h => (h.block _ (by omega)).trans k2)
    clear b1 b2 b02 hw2 h1 k2 hfp hmk
    go_wp2_with fail
    rw [HW2.out]
    refine (iPOf_is w2 t _ (HV.out.below HB2.out) m _ (HU2.out.below HB2.out) mk HMK.out w2 (Below.refl _ _)).mono ?_
    rintro e w3 ⟨rfl, b3⟩
    have b03 := HB02.out.trans (b3.mono HB02.out.size)
    obtain ⟨c0, c1, c2, c3, c4⟩ := blk5 (HK0.out w3 b03)
    obtain ⟨f0, f1, f2, f3, f4⟩ := blk5f (HK0.out w3 b03)
    obtain ⟨e0, e1, e2, e3, e4⟩ := blk5 (HK2.out w3 b3)
    have HB3 := Lib.hid (HB0.out.trans (b03.mono HB0.out.size))
    obtain ⟨mp, hmp⟩ : ∃ mp, encM m mk = mp := ⟨_, rfl⟩
    have HMP := Lib.hid hmp
    rw [hmp]
    clear b3 b03 hmp
    go_wp2
    refine bodyPost_ret (v := .tuple #[demX q d (.slice A q c) fp n, patV mp, .bool mk]) (by simp [results, Tryd.results41, go_sem, *]) rfl ?_
    refine ⟨set5 HB3.out hz _ _ _ _ _, ?_⟩
    cases mk
    · exact .inl ⟨HE.out, _, _, _, _, _, _, _, _, rfl⟩
    · exact .inr ⟨HE.out, by rw [← HMP.out, encM_yes, HFP.out, HQ.out, HD.out]⟩
end Go.Proofs.YtobgceebolmfcaaDoor
namespace Go.Proofs.YtobgceebolmfcaaDoor
open Go.RowKit Go.Shelf
theorem and_bit {h : Nat → Nat → Bool} {k l z : Nat} (hk : k < 4) (hl : l < 4) (hz : 2 ^ (4 * k + l) = z) : enc h &&& z = 0 ↔ h k l = false := by
  rw [← hz, bit_enc hk hl, and_enc, enc_eq0]
  constructor
  · intro e
    have := e k l hk hl
    simpa using this
  · intro e a b _ _
    by_cases h1 : a = k ∧ b = l
    · obtain ⟨rfl, rfl⟩ := h1
      simp [e]
    · have : (decide (a = k) && decide (b = l)) = false := by simp only [Bool.and_eq_false_iff, decide_eq_false_iff_not]; omega
      rw [this, Bool.and_false]
theorem mat_mask {t : Tb} {m : Mk} (h : mkOk t m = true) : (matM t.length (wd t) fun a b => (enc (hF m)).testBit (4 * a + b)) = m := by
  have ht := mk_tab h
  have h4 := ht.h4
  have w4 := ht.w4
  refine List.ext_getElem (by rw [matM_len, mk_len h]) fun i h1 h2 => ?_
  rw [matM_len] at h1
  have e1 : (matM t.length (wd t) fun a b => (enc (hF m)).testBit (4 * a + b))[i]'(by rw [matM_len]; exact h1) = (List.range (wd t)).map fun b => (enc (hF m)).testBit (4 * i + b) := by simp [matM]
  have e3 := mk_row h h1
  rw [getD_of _ _ h2] at e3
  rw [e1]
  refine List.ext_getElem (by simp [e3]) fun j h3 h4' => ?_
  have hj : j < wd t := by simpa using h3
  simp only [List.getElem_map, List.getElem_range]
  rw [enc_cell _ (by omega) (by omega)]
  unfold hF
  rw [getD_of _ _ h2, getD_of _ _ h4']
theorem mask_in {t : Tb} {m : Mk} (h : mkOk t m = true) (i : PB (enc (hF m))) : i.1.val / 4 < t.length ∧ i.1.val % 4 < wd t := by
  have e := i.2
  rw [enc_bit, Bool.and_eq_true] at e
  have e2 := e.2
  constructor
  · refine Classical.byContradiction fun hn => ?_
    rw [hF_out1 (by rw [mk_len h]; omega)] at e2; cases e2
  · refine Classical.byContradiction fun hn => ?_
    by_cases h1 : i.1.val / 4 < t.length
    · rw [hF_out2 (by rw [mk_row h h1]; omega)] at e2; cases e2
    · rw [hF_out1 (by rw [mk_len h]; omega)] at e2; cases e2
set_option maxRecDepth 100000 in
set_option maxHeartbeats 4000000 in
theorem iSafe_is (W : World) (t : Tb) (v : Value) (hv : IsR W v t) (m : Mk) (hm : mkOk t m = true) (fp : Nat) (n : Int) (hn : 0 ≤ n ∧ n ≤ 99) (k l : Nat) (hk : k < t.length) (hl : l < wd t) (g : Bool) (hg : safB t m n k l = g) (w : World) (hb : Below W.heap.size W w) (hT : TabW W) :
    Calls Tryd.prog 75 #[demV t.length (wd t) v fp n, plV k l, patV (enc (hF m))] w (Back (.bool g) W) := by
  have ht := mk_tab hm
  have hk4 : k < 4 := by have := ht.h4; omega
  have hl4 : l < 4 := by have := ht.w4; omega
  have hq4 : t.length ≤ 4 := ht.h4
  have hd4 : wd t ≤ 4 := ht.w4
  have hcb := ht.cell hk hl
  have hMM := mat_mask hm
  have hIN := mask_in hm
  obtain ⟨A, c, rfl, _, _, _⟩ := id hv
  have HRL := Lib.hid (ht.rlen hk)
  obtain ⟨z, hz⟩ : ∃ z, 2 ^ (4 * k + l) = z := ⟨_, rfl⟩
  have hz16 : z < 65536 := by rw [← hz]; exact bit_lt (by omega)
  have hab := and_bit (h := hF m) hk4 hl4 hz
  have hpe := enc_lt (hF m)
  obtain ⟨hp, hhp⟩ : ∃ hp, enc (hF m) = hp := ⟨_, rfl⟩
  rw [hhp] at hab hMM hIN hpe ⊢
  have hint := and_int hpe hz16
  obtain ⟨r, hr⟩ : ∃ r, hp &&& z = r := ⟨_, rfl⟩
  rw [hr] at hint hab
  obtain ⟨hi, hhi⟩ : ∃ x, hiI t m k l = x := ⟨_, rfl⟩
  obtain ⟨lo, hlo⟩ : ∃ x, loI t m k l = x := ⟨_, rfl⟩
  obtain ⟨y, hy⟩ : ∃ y, cF t k l = y := ⟨_, rfl⟩
  have HHI := Lib.hid hhi
  have HLO := Lib.hid hlo
  rw [safB, hhi, hlo, hy] at hg
  rw [hy] at hcb
  have hyy : (t.getD k []).getD l 0 = y := hy
  obtain ⟨A', c', hvv, _, _, hL⟩ := id hv
  injection hvv with g1 _ g2
  subst g1 g2
  obtain ⟨b, o, b2, o2, c2, hA, hb1, hc1, _, hb3, hc2⟩ := hL.cell2 (i := k) (j := l) hk (by rw [HRL.out]; exact hl)
  subst hA
  rw [HRL.out] at hc1
  rw [hyy] at hc2
  obtain ⟨q, hq⟩ : ∃ q, t.length = q := ⟨_, rfl⟩
  obtain ⟨d, hd⟩ : ∃ d, wd t = d := ⟨_, rfl⟩
  have HM := Lib.hid hm
  have HKQ := Lib.hid hk
  have HLD := Lib.hid hl
  have HMM := Lib.hid hMM
  have HIN := Lib.hid hIN
  have HZ := Lib.hid hz
  rw [hq] at hk HMM HIN hq4 hv ⊢
  rw [hd] at hl hc1 HMM HIN hd4 ⊢
  have HV := Lib.hid hv
  obtain ⟨W2, hW, hb2, hz2, hf⟩ := two_fit w #[.int .i64 q, .int .i64 d, .slice (some ⟨b, o, none⟩) q c, patV fp, .int .i64 n] #[.int .i64 k, .int .i64 l] TDm TPl
  have hWX : Below W.heap.size W W2 := hb.trans (hb2.mono hb.size)
  have HWX := Lib.hid hWX
  have HW := Lib.hid hW.symm
  have HT2 := Lib.hid (hT.below hWX)
  have HCE := Lib.hid (show ∀ X, Below W2.heap.size W2 X → (X.cell? ⟨w.heap.size, 0, none⟩ = some (.int .i64 q) ∧ X.cell? ⟨w.heap.size, 1, none⟩ = some (.int .i64 d) ∧ X.cell? ⟨w.heap.size, 2, none⟩ = some (.slice (some ⟨b, o, none⟩) q c) ∧ X.cell? ⟨w.heap.size, 4, none⟩ = some (.int .i64 n)) ∧
      (X.cell? ⟨w.heap.size + 1, 0, none⟩ = some (.int .i64 k) ∧ X.cell? ⟨w.heap.size + 1, 1, none⟩ = some (.int .i64 l)) ∧ X.cell? ⟨b, o + k, none⟩ = some (.slice (some ⟨b2, o2, none⟩) d c2) ∧ X.cell? ⟨b2, o2 + l, none⟩ = some (.int .i64 y) from fun X h => by
    obtain ⟨x0, x1, _⟩ := hf X h
    obtain ⟨p0, p1, p2, _, p4⟩ := blk5 x0
    obtain ⟨q0, q1, _, _⟩ := blk2 x1
    have h2 := hWX.trans (h.mono hWX.size)
    exact ⟨⟨p0, p1, p2, p4⟩, ⟨q0, q1⟩, (h2.cell (p := ⟨b, o + k, none⟩) hb1).trans hc1, (h2.cell (p := ⟨b2, o2 + l, none⟩) hb3).trans hc2⟩)
  have hki : (k : Int) < (q : Int) := by omega
  have hli : (l : Int) < (d : Int) := by omega
  have HG := Lib.hid hg
  have HAB := Lib.hid hab
  obtain ⟨_, ⟨q0, q1⟩, _, _⟩ := HCE.out W2 (Below.refl _ _)
  clear hv hb hT hg hq hd hm hMM hIN hz hf hW hWX hb2 hb1 hc1 hb3 hc2 hL hyy hy hhi hlo hr hz16 hab hhp
  go_enter Tryd.func75, Tryd.ntmps75
  go_wp2_with fail
  rw [HW.out]
  go_wp2_with fail
  refine (iBit_as k l hk4 hl4 z HZ.out W2).mono ?_
  rintro e w1 ⟨rfl, b1⟩
  have HB1 := Lib.hid b1
  have HT1 := Lib.hid (HT2.out.below b1)
  clear q0 q1 b1
  cases hh : hF m k l
  · have h0 : r = 0 := HAB.out.2 hh
    have HE := Lib.hid (show g = false by rw [← HG.out, hh]; rfl)
    subst h0
    clear hh
    go_wp2
    go_ret
    exact ⟨by rw [HE.out]; rfl, HWX.out.trans (HB1.out.mono HWX.out.size)⟩
  have h0 : ¬ r = 0 := fun e => by rw [HAB.out.1 e] at hh; cases hh
  have h0i : ¬ (r : Int) = 0 := by omega
  have HG2 := Lib.hid (show (decide (y + n ≤ hi) && decide (lo ≤ max 0 (y - n))) = g by rw [← HG.out, hh]; rfl)
  clear hh h0
  have HSS := Lib.hid (show ∀ X, Below w1.heap.size w1 X → Below w1.heap.size w1 X ∧ (X.cell? ⟨w.heap.size, 0, none⟩ = some (.int .i64 q) ∧ X.cell? ⟨w.heap.size, 1, none⟩ = some (.int .i64 d) ∧ X.cell? ⟨w.heap.size, 2, none⟩ = some (.slice (some ⟨b, o, none⟩) q c) ∧ X.cell? ⟨w.heap.size, 4, none⟩ = some (.int .i64 n)) ∧
      (X.cell? ⟨w.heap.size + 1, 0, none⟩ = some (.int .i64 k) ∧ X.cell? ⟨w.heap.size + 1, 1, none⟩ = some (.int .i64 l)) ∧ X.cell? ⟨b, o + k, none⟩ = some (.slice (some ⟨b2, o2, none⟩) d c2) ∧ X.cell? ⟨b2, o2 + l, none⟩ = some (.int .i64 y) from fun X h =>
    ⟨h, HCE.out X (HB1.out.trans (h.mono HB1.out.size))⟩)
  have bd : Below w1.heap.size w1 w1.drew := (Below.refl _ _).drew
  go_wp2_with fail
  go_region_held3 (fun X : World => Below w1.heap.size w1 X ∧ (X.cell? ⟨w.heap.size, 0, none⟩ = some (.int .i64 q) ∧ X.cell? ⟨w.heap.size, 1, none⟩ = some (.int .i64 d) ∧ X.cell? ⟨w.heap.size, 2, none⟩ = some (.slice (some ⟨b, o, none⟩) q c) ∧ X.cell? ⟨w.heap.size, 4, none⟩ = some (.int .i64 n)) ∧
      (X.cell? ⟨w.heap.size + 1, 0, none⟩ = some (.int .i64 k) ∧ X.cell? ⟨w.heap.size + 1, 1, none⟩ = some (.int .i64 l)) ∧ X.cell? ⟨b, o + k, none⟩ = some (.slice (some ⟨b2, o2, none⟩) d c2) ∧ X.cell? ⟨b2, o2 + l, none⟩ = some (.int .i64 y))
    (first | exact HSS.out _ bd | exact HSS.out _ (by assumption))
    (first
    | (go_at_call 43
       refine (iPMask_is q d (by omega) (by omega) hp hpe HIN.out m HMM.out _ (HT1.out.below bd)).mono ?_
       rintro e w3 ⟨v3, rfl, hm3, b3⟩
       obtain ⟨A3, c3, hv3, _, _, hl3⟩ := hm3.is
       obtain rfl := hv3
       have b13 : Below w1.heap.size w1 w3 := bd.trans (b3.mono (Nat.le_refl _))))
  obtain ⟨s0, ⟨_, _, p2, p4⟩, ⟨q0, q1⟩, _, _⟩ := HSS.out w3 b13
  have HB3 := Lib.hid (HWX.out.trans ((HB1.out.trans (b13.mono HB1.out.size)).mono HWX.out.size))
  have HV3 := Lib.hid (HV.out.below HB3.out)
  have HM3 := Lib.hid hm3.is
  have L0 := Later.cell1 p2
  have L1 := Later.cell1 p4
  have L2 := Later.cell1 q0
  have L3 := Later.cell1 q1
  have hw1 : IntKind.i64.wrap (y + n) = y + n := by rw [IntKind.wrap_i64]; omega
  have hw2 : IntKind.i64.wrap (y - n) = y - n := by rw [IntKind.wrap_i64]; omega
  obtain ⟨z9, hz9⟩ : ∃ z9, (if 0 < y - n then y - n else 0) = z9 := ⟨_, rfl⟩
  have hmx : max 0 (y - n) = z9 := by rw [← hz9]; split <;> omega
  rw [hmx] at HG2
  clear hm3 hl3 b3 b13 bd s0 p2 p4 q0 q1 hmx
  have HZ9 := Lib.hid (show (0 < y - n ∧ z9 = y - n) ∨ (¬ 0 < y - n ∧ z9 = 0) from by
    by_cases h : 0 < y - n
    · exact .inl ⟨h, by rw [← hz9, if_pos h]⟩
    · exact .inr ⟨h, by rw [← hz9, if_neg h]⟩)
  clear hz9
  by_cases hge : y + n ≤ hi
  · by_cases hle : lo ≤ z9
    · have HE := Lib.hid (show g = true by rw [← HG2.out]; simp [hge, hle])
      have HLE := Lib.hid hle
      clear hle
      go_wp2_with fail
      refine region_quiet_later (by kernel_rfl) (by kernel_rfl) ?_
      repeat (go_big_quiet_step (first
        | (go_at_call 87
           exact Later.back (iHigh_is w3 t _ HV3.out m _ HM3.out k l hi HHI.out _ (Later.h _)) fun _ _ h => h)
        | (go_at_call 88
           exact Later.back (iLow_is w3 t _ HV3.out m _ HM3.out k l lo HLO.out _ (Later.h _)) fun _ _ h => h)))
      refine wpQuiet_nil ?_
      rintro _ ⟨L, rfl⟩
      have HF := Lib.hid (HB3.out.trans (L.h.mono HB3.out.size))
      clear L0 L1 L2 L3 hw1 hw2 hge
      go_wp2
      all_goals
        go_ret
        refine ⟨?_, HF.out⟩
        rw [HE.out]
        have h8 := HLE.out
        have h9 := HZ9.out
        exact retb (by simp; omega)
    · have HE := Lib.hid (show g = false by rw [← HG2.out]; simp [hle])
      have HLE := Lib.hid hle
      clear hle
      go_wp2_with fail
      refine region_quiet_later (by kernel_rfl) (by kernel_rfl) ?_
      repeat (go_big_quiet_step (first
        | (go_at_call 87
           exact Later.back (iHigh_is w3 t _ HV3.out m _ HM3.out k l hi HHI.out _ (Later.h _)) fun _ _ h => h)
        | (go_at_call 88
           exact Later.back (iLow_is w3 t _ HV3.out m _ HM3.out k l lo HLO.out _ (Later.h _)) fun _ _ h => h)))
      refine wpQuiet_nil ?_
      rintro _ ⟨L, rfl⟩
      have HF := Lib.hid (HB3.out.trans (L.h.mono HB3.out.size))
      clear L0 L1 L2 L3 hw1 hw2 hge
      go_wp2
      all_goals
        go_ret
        refine ⟨?_, HF.out⟩
        rw [HE.out]
        have h8 := HLE.out
        have h9 := HZ9.out
        exact retb (by simp; omega)
  · have HE := Lib.hid (show g = false by rw [← HG2.out]; simp [hge])
    have hge2 : decide (y + n ≤ hi) = false := by simp [hge]
    go_wp2_with fail
    refine region_quiet_later (by kernel_rfl) (by kernel_rfl) ?_
    repeat (go_big_quiet_step (first
      | (go_at_call 87
         exact Later.back (iHigh_is w3 t _ HV3.out m _ HM3.out k l hi HHI.out _ (Later.h _)) fun _ _ h => h)
      | (go_at_call 88
         exact Later.back (iLow_is w3 t _ HV3.out m _ HM3.out k l lo HLO.out _ (Later.h _)) fun _ _ h => h)))
    refine wpQuiet_nil ?_
    rintro _ ⟨L, rfl⟩
    have HF := Lib.hid (HB3.out.trans (L.h.mono HB3.out.size))
    clear L0 L1 L2 L3 hw1 hw2 hge hge2
    go_wp2
    all_goals
      go_ret
      refine ⟨?_, HF.out⟩
      rw [HE.out]; rfl
end Go.Proofs.YtobgceebolmfcaaDoor
namespace Go.Proofs.YtobgceebolmfcaaDoor
open Go.RowKit Go.Shelf
attribute [local go_sem] Oper.semAt_some
/-- What is not safe of some bits. -/
noncomputable def restB (t : Tb) (m : Mk) (n : Int) {x : Nat} (pre : List (PB x)) : Nat → Nat → Bool := fun a b => pre.any fun i => decide (i.1.val = 4 * a + b) && !safB t m n (i.1.val / 4) (i.1.val % 4)
theorem restB_nil (t : Tb) (m : Mk) (n : Int) {x : Nat} : enc (restB t m n ([] : List (PB x))) = 0 := enc_eq0.2 fun _ _ _ _ => rfl
theorem restB_yes {t : Tb} {m : Mk} {n : Int} {x : Nat} {pre : List (PB x)} {i : PB x} (h : safB t m n (i.1.val / 4) (i.1.val % 4) = true) : enc (restB t m n (pre ++ [i])) = enc (restB t m n pre) :=
  enc_ext fun a b _ _ => by unfold restB; rw [List.any_append]; simp [h]
theorem restB_no {t : Tb} {m : Mk} {n : Int} {x : Nat} {pre : List (PB x)} {i : PB x} {k l : Nat} (hk : i.1.val / 4 = k) (hl : i.1.val % 4 = l) (h : safB t m n k l = false) : enc (restB t m n pre) ||| 2 ^ (4 * k + l) = enc (restB t m n (pre ++ [i])) := by
  rw [bit_enc (a := k) (b := l) (by have := i.1.isLt; omega) (by omega), or_enc]
  refine enc_ext fun a b ha hb => ?_
  unfold restB
  rw [List.any_append]
  congr 1
  simp only [List.any_cons, List.any_nil, Bool.or_false, hk, hl, h, Bool.not_false, Bool.and_true]
  rw [Bool.eq_iff_iff]
  simp only [Bool.and_eq_true, decide_eq_true_eq]
  omega
theorem restB_all {t : Tb} {f m : Mk} {n : Int} : enc (restB t m n (allP (enc (hF f)))) = enc (unF t f m n) := enc_ext fun a b ha hb => by
  rw [Bool.eq_iff_iff]
  unfold restB unF
  rw [List.any_eq_true, Bool.and_eq_true]
  constructor
  · rintro ⟨i, _, h⟩
    simp only [Bool.and_eq_true, decide_eq_true_eq] at h
    have h1 := i.2
    rw [h.1, enc_cell _ ha hb] at h1
    have h2 := h.2
    rw [h.1, show (4 * a + b) / 4 = a by omega, show (4 * a + b) % 4 = b by omega] at h2
    exact ⟨h1, h2⟩
  · rintro ⟨h1, h2⟩
    refine ⟨⟨⟨4 * a + b, by omega⟩, by show (enc (hF f)).testBit (4 * a + b) = true; rw [enc_cell _ ha hb]; exact h1⟩, pick_mem, ?_⟩
    simp only [Bool.and_eq_true, decide_eq_true_eq]
    exact ⟨trivial, by rw [show (4 * a + b) / 4 = a by omega, show (4 * a + b) % 4 = b by omega]; exact h2⟩
/-- Four blocks laid one behind the other. -/
theorem four_blk (w : World) (a b c d : Array Value) (T T' T'' T3 : TypeId) : ∃ W4, W4 = (((w.alloc (.cells a T)).alloc (.cells b T')).alloc (.cells c T'')).alloc (.cells d T3) ∧ Below w.heap.size w W4 ∧ W4.heap.size = w.heap.size + 1 + 1 + 1 + 1 ∧
    W4.heap[w.heap.size]? = some (.cells a T (0, 0)) ∧ W4.heap[w.heap.size + 1]? = some (.cells b T' (0, 0)) ∧ W4.heap[w.heap.size + 1 + 1]? = some (.cells c T'' (0, 0)) ∧ W4.heap[w.heap.size + 1 + 1 + 1]? = some (.cells d T3 (0, 0)) := by
  obtain ⟨W3, hW, hb, hz, k0, k1, k2⟩ := three_blk w a b c T T' T''
  have h4 : Below W3.heap.size W3 (W3.alloc (.cells d T3)) := (Below.refl _ _).alloc (Nat.le_refl _) _
  refine ⟨W3.alloc (.cells d T3), by rw [hW], hb.trans (h4.mono hb.size), by simp [hz], (h4.block _ (by omega)).trans k0, (h4.block _ (by omega)).trans k1, (h4.block _ (by omega)).trans k2, ?_⟩
  have := heap_alloc_new W3 (.cells d T3)
  rw [hz] at this; exact this
set_option maxRecDepth 100000 in
set_option maxHeartbeats 4000000 in
theorem iUnmet_is (W : World) (t : Tb) (v : Value) (hv : IsR W v t) (f m : Mk) (hf : mkOk t f = true) (hm : mkOk t m = true) (n : Int) (hn : 0 ≤ n ∧ n ≤ 99) (g : Nat) (hg : enc (unF t f m n) = g) (w : World) (hb : Below W.heap.size W w) (hT : TabW W) :
    Calls Tryd.prog 48 #[demV t.length (wd t) v (enc (hF f)) n, patV (enc (hF m))] w (Back (patV g) W) := by
  have ht := mk_tab hf
  have HM := Lib.hid hm
  have HB := Lib.hid hb
  have hWw := hb.size
  have hTw := hT.below hb
  have htl := hTw.lt
  have HG := Lib.hid (restB_all.trans hg)
  have hIN := mask_in hf
  obtain ⟨x, hx⟩ : ∃ x, enc (hF f) = x := ⟨_, rfl⟩
  have hx16 : x < 65536 := by rw [← hx]; exact enc_lt _
  rw [hx] at hIN HG ⊢
  have HIN := Lib.hid hIN
  obtain ⟨hp, hhp⟩ : ∃ hp, enc (hF m) = hp := ⟨_, rfl⟩
  have HHP := Lib.hid hhp
  rw [hhp]
  obtain ⟨A, c, rfl, _, _, _⟩ := id hv
  obtain ⟨q, hq⟩ : ∃ q, t.length = q := ⟨_, rfl⟩
  obtain ⟨d, hd⟩ : ∃ d, wd t = d := ⟨_, rfl⟩
  have HQ := Lib.hid hq
  have HD := Lib.hid hd
  rw [hq] at hv ⊢
  rw [hd]
  have HV := Lib.hid hv
  have hq4 : q ≤ 4 := by rw [← hq]; exact ht.h4
  have hd4 : d ≤ 4 := by rw [← hd]; exact ht.w4
  obtain ⟨W5, hW5, b5, hz5, k0, k1, k2, k3⟩ := four_blk w #[.int .i64 q, .int .i64 d, .slice A q c, patV x, .int .i64 n] #[patV hp] #[.int .u64 0] #[patV x] TDm TPt TPt TPt
  have HW5 := Lib.hid hW5.symm
  have HB5 := Lib.hid b5
  have HT5 := Lib.hid (hTw.below b5)
  have HK := Lib.hid (show ∀ X, Below W5.heap.size W5 X → X.cell? ⟨w.heap.size, 3, none⟩ = some (patV x) from fun X h => (blk5 ((h.block _ (by omega)).trans k0)).2.2.2.1)
  obtain ⟨_, _, _, e3, _⟩ := blk5 k0
  clear hb hg hf hm ht hx hhp hIN hT hTw hW5 hq hd hv
  refine (callsIn_wide (n := 6)).1 ?_
  refine callsIn_of_wp_marks Tryd.func48 rfl trivial ?_ rfl
  simp only [Tryd.ntmps48, List.size_toArray, List.length_cons, List.length_nil, Nat.reduceAdd, Nat.reduceSub, Array.replicate_succ, Array.replicate_zero, List.push_toArray, List.append_toArray, List.nil_append, List.cons_append]
  gi_wp2_with fail
  refine ⟨trivial, ?_⟩
  refine (callsIn_wide.2 (iPlcs_any x _)).mono ?_
  rintro e w3 ⟨rfl, rfl⟩
  gi_wp2
  rw [HW5.out]
  clear e3
  have hlt5 : w.heap.size + 1 + 1 + 1 < W5.heap.size := by omega
  have hN := allP_len x
  have HFX := Lib.hid (show ∀ X : World, X.heap[w.heap.size]? = some (.cells #[.int .i64 q, .int .i64 d, .slice A q c, patV x, .int .i64 n] TDm (0, 0)) → X.heap[w.heap.size + 1]? = some (.cells #[patV hp] TPt (0, 0)) →
      (X.cell? ⟨w.heap.size, 0, none⟩ = some (.int .i64 q) ∧ X.cell? ⟨w.heap.size, 1, none⟩ = some (.int .i64 d) ∧ X.cell? ⟨w.heap.size, 2, none⟩ = some (.slice A q c) ∧ X.cell? ⟨w.heap.size, 3, none⟩ = some (patV x) ∧ X.cell? ⟨w.heap.size, 4, none⟩ = some (.int .i64 n)) ∧ X.cell? ⟨w.heap.size + 1, 0, none⟩ = some (patV hp) from
    fun X h1 h2 => ⟨blk5 h1, cell_of_row _ _ 0 _ _ _ h2⟩)
  refine' wpIn_rangeFunc_ownH (α := PB x) rfl (by omega) (gf := 84) (lb := #[.pointer (some ⟨w.heap.size + 1 + 1 + 1, 0, none⟩)]) rfl trivial (enters_of Tryd.func84 (by kernel_rfl) rfl)
    (plcs_stops 5 (by omega) (w.heap.size + 1 + 1 + 1) x hx16 W5 (by omega) k3 HT5.out) kP_t (kP_b hlt5 (by omega)) (Below.refl _ _) (fun _ => rfl)
    (fun pre X => (((Boxed X (w.heap.size + 1 + 1) TPt (patV (enc (restB t m n pre))) ∧ W5.heap.size ≤ X.heap.size) ∧ X.heap[w.heap.size]? = some (.cells #[.int .i64 q, .int .i64 d, .slice A q c, patV x, .int .i64 n] TDm (0, 0))) ∧ X.heap[w.heap.size + 1]? = some (.cells #[patV hp] TPt (0, 0))) ∧ Below w.heap.size w X)
    (fun _ _ _ => False)
    (OwnFrom.and (OwnFrom.and (OwnFrom.and (fun s X Y row hs hg hr => ⟨boxed_own _ TPt (fun (_ : Unit) => patV (enc (restB t m n s))) () X Y row hs.1 hg (fun r e => (hr r e).2), Nat.le_trans hs.2 hg.size⟩) cells_from) cells_from) (ownFrom_below (Nat.le_refl _) (by omega)))
    (fun _ _ _ _ _ hs _ _ => hs)
    ⟨⟨⟨⟨by rw [restB_nil]; exact k2, Nat.le_refl _⟩, k0⟩, k1⟩, HB5.out⟩
    (fun i a' X => ∃ Bx, W5.heap.size ≤ Bx ∧ X.heap[Bx]? = some (.cells #[.int .i64 (i.1.val / 4 : Nat), .int .i64 (i.1.val % 4 : Nat)] TPl (0, 0)) ∧ a' = (?fr9 : PB x → Nat → Act) i Bx)
    (fun i a' _ X Y row hs hg hr => by obtain ⟨Bx, e1, e2, e3⟩ := hs; exact ⟨Bx, e1, (grownBy_keeps_cells hg (fun r e => (hr r e).2) e2 rfl).trans e2, e3⟩)
    ?assign ?body ?done ?stop
  rotate_left
  case assign =>
    rintro l' pre i X K ⟨⟨⟨⟨hbx, hzX5⟩, hx0⟩, hx1⟩, hbX⟩ hK
    have hzX := hbX.size
    gi_wp2
    refine hK _ _ ((KeepsOthers.alloc _ _).from _) (kP_below ((Below.refl _ X).alloc (Nat.le_refl _) _) (by omega) (by omega)) ⟨⟨⟨⟨(Below.heap_alloc _ _ _ hbx.lt).trans hbx, Nat.le_trans hzX5 (by simp)⟩, (Below.heap_alloc _ _ _ (by omega)).trans hx0⟩, (Below.heap_alloc _ _ _ (by omega)).trans hx1⟩, hbX.alloc hzX _⟩ ⟨X.heap.size, hzX5, heap_alloc_new X _, ?_⟩
    generalize X.heap.size = nn
    rfl
  case body =>
    rintro l' pre i a' X _ _ ⟨⟨⟨⟨hbx, hzX5⟩, hx0⟩, hx1⟩, hbX⟩ ⟨Bx, hBx, hx, rfl⟩ hlt
    have hwX : Below W.heap.size W X := HB.out.trans (hbX.mono hWw)
    obtain ⟨hi, hj⟩ := HIN.out i
    obtain ⟨g1, hg1⟩ : ∃ g1, safB t m n (i.1.val / 4) (i.1.val % 4) = g1 := ⟨_, rfl⟩
    obtain ⟨k, hk⟩ : ∃ k, i.1.val / 4 = k := ⟨_, rfl⟩
    obtain ⟨l, hl⟩ : ∃ l, i.1.val % 4 = l := ⟨_, rfl⟩
    have HYES := Lib.hid (fun h => restB_yes (t := t) (m := m) (n := n) (pre := pre) (i := i) h)
    have HNO := Lib.hid (fun h => restB_no (t := t) (m := m) (n := n) (pre := pre) (i := i) hk hl h)
    rw [hk, hl] at hx hg1
    rw [hk] at hi
    rw [hl] at hj
    have hBxX : Bx < X.heap.size := (Array.getElem?_eq_some_iff.1 hx).1
    have HTX := Lib.hid (HT5.out.same (w' := X) (by
      have h1 := hbX.block 1 htl
      have h2 := HB5.out.block 1 htl
      rw [h1, h2]))
    obtain ⟨⟨y0, y1, y2, y3, y4⟩, y5⟩ := HFX.out X hx0 hx1
    obtain ⟨x0, x1, _, _⟩ := blk2 hx
    have HS1 := Lib.hid (iSafe_is X t _ (HV.out.below hwX) m HM.out x n hn k l hi hj g1 hg1 X (Below.refl _ _) HTX.out)
    rw [HQ.out, HD.out, HHP.out] at HS1
    obtain ⟨r, hr⟩ : ∃ r, enc (restB t m n pre) = r := ⟨_, rfl⟩
    have hr16 : r < 65536 := by rw [← hr]; exact enc_lt _
    rw [hr] at hbx HYES HNO
    have HX0 := Lib.hid hx0
    have HX1 := Lib.hid hx1
    have HBX := Lib.hid hbX
    have HBOX := Lib.hid hbx
    have HXX := Lib.hid hx
    have HG1 := Lib.hid (show safB t m n (i.1.val / 4) (i.1.val % 4) = g1 by rw [hk, hl]; exact hg1)
    have HG1k := Lib.hid hg1
    have hk4 : k < 4 := by omega
    have hl4 : l < 4 := by omega
    clear hlt hbX hwX hx0 hx1 hbx hg1 hk hl hr hx
    gi_wp2_with fail
    refine ⟨trivial, ?_⟩
    refine (callsIn_wide.2 HS1.out).mono ?_
    rintro e X2 ⟨rfl, h2⟩
    have hzX := HBX.out.size
    have HB2X := Lib.hid (HBX.out.trans (h2.mono hzX))
    have HBOX2 := Lib.hid (show Boxed X2 (w.heap.size + 1 + 1) TPt (patV r) from (h2.block _ HBOX.out.lt).trans HBOX.out)
    have HX02 := Lib.hid ((h2.block _ (by omega)).trans HX0.out)
    have HX12 := Lib.hid ((h2.block _ (by omega)).trans HX1.out)
    have HXX2 := Lib.hid ((h2.block _ hBxX).trans HXX.out)
    have HKX := Lib.hid (keepsF h2 W5.heap.size)
    have HKB := Lib.hid (kP_below (B := w.heap.size + 1 + 1 + 1) h2 (by omega) (by omega))
    have hs2 : W5.heap.size ≤ X2.heap.size := Nat.le_trans hzX5 h2.size
    clear h2 y0 y1 y2 y3 y4 y5 x0 x1
    cases g1
    · have HN := Lib.hid (HNO.out HG1k.out)
      obtain ⟨zb, hzb⟩ : ∃ zb, 2 ^ (4 * k + l) = zb := ⟨_, rfl⟩
      rw [hzb] at HN
      have hzb16 : zb < 65536 := by rw [← hzb]; exact bit_lt (by omega)
      have hint := or_int hr16 hzb16
      obtain ⟨rr, hrr⟩ : ∃ rr, r ||| zb = rr := ⟨_, rfl⟩
      rw [hrr] at hint HN
      have HBIT := Lib.hid (iBit_as k l hk4 hl4 zb hzb)
      have e0 := HBOX2.out.cell
      obtain ⟨x0, x1, _, _⟩ := blk2 HXX2.out
      clear hzb hrr
      gi_wp2
      have hmx : Tryd.prog.follows .mixedOrders = true := by kernel_rfl
      have HSY := Lib.hid (show ∀ y, Below X2.heap.size X2 y → (y.cell? ⟨Bx, 0, none⟩ = some (.int .i64 k) ∧ y.cell? ⟨Bx, 1, none⟩ = some (.int .i64 l)) ∧ y.cell? ⟨w.heap.size + 1 + 1, 0, none⟩ = some (patV r) ∧ y.frozen? ⟨w.heap.size + 1 + 1, 0, none⟩ = false from fun y hy => by
        have h1 : Boxed y (w.heap.size + 1 + 1) TPt (patV r) := (hy.block _ HBOX2.out.lt).trans HBOX2.out
        obtain ⟨z0, z1, _, _⟩ := blk2 ((hy.block _ (Array.getElem?_eq_some_iff.1 HXX2.out).1).trans HXX2.out)
        exact ⟨⟨z0, z1⟩, h1.cell, h1.frozen⟩)
      have HSZ := Lib.hid (show ∀ y, Below X2.heap.size X2 y → ((y.setCell ⟨w.heap.size + 1 + 1, 0, none⟩ (patV rr)).cell? ⟨Bx, 0, none⟩ = some (.int .i64 k) ∧ (y.setCell ⟨w.heap.size + 1 + 1, 0, none⟩ (patV rr)).cell? ⟨Bx, 1, none⟩ = some (.int .i64 l)) from fun y hy => by
        have h2 := (Below.heap_setCell y ⟨w.heap.size + 1 + 1, 0, none⟩ (patV rr) Bx (by show Bx ≠ w.heap.size + 1 + 1; omega)).trans ((hy.block _ (Array.getElem?_eq_some_iff.1 HXX2.out).1).trans HXX2.out)
        obtain ⟨z0, z1, _, _⟩ := blk2 h2
        exact ⟨z0, z1⟩)
      obtain ⟨hS, e8, f8⟩ := HSY.out X2.drew (Below.refl _ _).drew
      clear e0 x0 x1
      refine region_round (S := fun y : World => y.cell? ⟨Bx, 0, none⟩ = some (.int .i64 k) ∧ y.cell? ⟨Bx, 1, none⟩ = some (.int .i64 l))
        (Q := fun e a y => e = .normal ∧ ∃ Y, Below X2.heap.size X2 Y ∧ y = Y.setCell ⟨w.heap.size + 1 + 1, 0, none⟩ (patV rr)) hmx (by kernel_rfl) (fun ⟨_, _, h⟩ => by cases h.1) ?_ ?_
      rotate_left
      · refine wpAnyH_take (i := 1) (v := .agg #[.int .i64 k, .int .i64 l]) rfl (by kernel_rfl) (by kernel_rfl) (by kernel_rfl) (fun _ _ _ h => by cases h.1) (Or.inl ⟨by rfl, ?_⟩) hS ?_
        · (intro y hy; obtain ⟨y0, y1⟩ := hy; go_simp)
        try simp only [Act.put, List.getElem_toArray, List.getElem_cons_succ, List.getElem_cons_zero, List.setIfInBounds_toArray, List.set_cons_zero, List.set_cons_succ]
        refine wpAnyH_all (rs := [0, 2]) (by kernel_rfl) (by simp) (fun i hi => ?_)
        rcases (show i = 0 ∨ i = 2 by simpa using hi) with rfl | rfl
        · clear hi
          unfold wpOp
          simp only [List.getElem?_toArray, List.getElem?_cons_zero]
          rw [if_pos (by rfl)]
          left
          unfold Oper.wp
          go_simp
          first | refine ⟨hS, ?_⟩ | skip
          try simp only [Act.put, List.getElem_toArray, List.getElem_cons_succ, List.getElem_cons_zero, List.setIfInBounds_toArray, List.set_cons_zero, List.set_cons_succ]
          refine wpAnyH_all (rs := [2]) (by kernel_rfl) (by simp) (fun i hi => ?_)
          obtain rfl : i = 2 := by simpa using hi
          clear hi
          unfold wpOp
          simp only [List.getElem?_toArray, List.getElem?_cons_succ, List.getElem?_cons_zero]
          rw [if_pos (by rfl)]
          left
          unfold Oper.wp
          go_simp
          refine (HBIT.out X2.drew).mono ?_
          rintro e w9 ⟨rfl, b9⟩
          have hb9 : Below X2.heap.size X2 w9 := ((Below.refl X2.heap.size X2).drew).trans b9
          obtain ⟨hS9, e9, f9⟩ := HSY.out w9 hb9
          first | refine ⟨hS9, ?_⟩ | skip
          try simp only [Act.put, List.getElem_toArray, List.getElem_cons_succ, List.getElem_cons_zero, List.setIfInBounds_toArray, List.set_cons_zero, List.set_cons_succ]
          refine wpAnyH_take (i := 3) (v := patV rr) rfl (by kernel_rfl) (by kernel_rfl) (by kernel_rfl) (fun _ _ _ h => by cases h.1) (Or.inl ⟨by rfl, ?_⟩) hS9 ?_
          · (intro y hy; go_simp)
          try simp only [Act.put, List.getElem_toArray, List.getElem_cons_succ, List.getElem_cons_zero, List.setIfInBounds_toArray, List.set_cons_zero, List.set_cons_succ]
          refine wpAnyH_all (rs := [4]) (by kernel_rfl) (by simp) (fun i hi => ?_)
          obtain rfl : i = 4 := by simpa using hi
          clear hi
          unfold wpOp
          simp only [List.getElem?_toArray, List.getElem?_cons_succ, List.getElem?_cons_zero]
          rw [if_pos (by rfl)]
          left
          unfold Oper.wp
          go_simp
          first | refine ⟨HSZ.out w9 hb9, ?_⟩ | skip
          exact wpAnyH_done (by kernel_rfl) ⟨rfl, w9, hb9, rfl⟩ _
        · clear hi
          unfold wpOp
          simp only [List.getElem?_toArray, List.getElem?_cons_succ, List.getElem?_cons_zero]
          rw [if_pos (by rfl)]
          left
          unfold Oper.wp
          go_simp
          refine (HBIT.out X2.drew).mono ?_
          rintro e w9 ⟨rfl, b9⟩
          have hb9 : Below X2.heap.size X2 w9 := ((Below.refl X2.heap.size X2).drew).trans b9
          obtain ⟨hS9, e9, f9⟩ := HSY.out w9 hb9
          first | refine ⟨hS9, ?_⟩ | skip
          try simp only [Act.put, List.getElem_toArray, List.getElem_cons_succ, List.getElem_cons_zero, List.setIfInBounds_toArray, List.set_cons_zero, List.set_cons_succ]
          refine wpAnyH_all (rs := [0]) (by kernel_rfl) (by simp) (fun i hi => ?_)
          obtain rfl : i = 0 := by simpa using hi
          clear hi
          unfold wpOp
          simp only [List.getElem?_toArray, List.getElem?_cons_zero]
          rw [if_pos (by rfl)]
          left
          unfold Oper.wp
          go_simp
          first | refine ⟨hS9, ?_⟩ | skip
          try simp only [Act.put, List.getElem_toArray, List.getElem_cons_succ, List.getElem_cons_zero, List.setIfInBounds_toArray, List.set_cons_zero, List.set_cons_succ]
          refine wpAnyH_take (i := 3) (v := patV rr) rfl (by kernel_rfl) (by kernel_rfl) (by kernel_rfl) (fun _ _ _ h => by cases h.1) (Or.inl ⟨by rfl, ?_⟩) hS9 ?_
          · (intro y hy; go_simp)
          try simp only [Act.put, List.getElem_toArray, List.getElem_cons_succ, List.getElem_cons_zero, List.setIfInBounds_toArray, List.set_cons_zero, List.set_cons_succ]
          refine wpAnyH_all (rs := [4]) (by kernel_rfl) (by simp) (fun i hi => ?_)
          obtain rfl : i = 4 := by simpa using hi
          clear hi
          unfold wpOp
          simp only [List.getElem?_toArray, List.getElem?_cons_succ, List.getElem?_cons_zero]
          rw [if_pos (by rfl)]
          left
          unfold Oper.wp
          go_simp
          first | refine ⟨HSZ.out w9 hb9, ?_⟩ | skip
          exact wpAnyH_done (by kernel_rfl) ⟨rfl, w9, hb9, rfl⟩ _
      rintro e a' w9 ⟨rfl, Y, hY, rfl⟩
      have hb9 := HB2X.out.trans (hY.mono (show w.heap.size ≤ X2.heap.size by omega))
      have hbox9 : Boxed (Y.setCell ⟨w.heap.size + 1 + 1, 0, none⟩ (patV rr)) (w.heap.size + 1 + 1) TPt (patV rr) := (show Boxed Y (w.heap.size + 1 + 1) TPt (patV r) from (hY.block _ HBOX2.out.lt).trans HBOX2.out).set _
      have HFI := Lib.hid (show KeepsFrom W5.heap.size X (Y.setCell ⟨w.heap.size + 1 + 1, 0, none⟩ (patV rr)) ∧ KP (w.heap.size + 1 + 1 + 1) X (Y.setCell ⟨w.heap.size + 1 + 1, 0, none⟩ (patV rr)) ∧
          ((((Boxed (Y.setCell ⟨w.heap.size + 1 + 1, 0, none⟩ (patV rr)) (w.heap.size + 1 + 1) TPt (patV (enc (restB t m n (pre ++ [i])))) ∧ W5.heap.size ≤ (Y.setCell ⟨w.heap.size + 1 + 1, 0, none⟩ (patV rr)).heap.size) ∧
          (Y.setCell ⟨w.heap.size + 1 + 1, 0, none⟩ (patV rr)).heap[w.heap.size]? = some (.cells #[.int .i64 q, .int .i64 d, .slice A q c, patV x, .int .i64 n] TDm (0, 0))) ∧ (Y.setCell ⟨w.heap.size + 1 + 1, 0, none⟩ (patV rr)).heap[w.heap.size + 1]? = some (.cells #[patV hp] TPt (0, 0))) ∧ Below w.heap.size w (Y.setCell ⟨w.heap.size + 1 + 1, 0, none⟩ (patV rr))) from by
        refine ⟨HKX.out.trans ((keepsF hY _).trans ((KeepsOthers.setCell Y ⟨w.heap.size + 1 + 1, 0, none⟩ (patV rr)).from _)), kP_t HKB.out (kP_t (kP_below hY (by omega) (by omega)) (kP_set (by omega) (by omega))), ⟨⟨⟨by rw [← HN.out]; exact hbox9, ?_⟩, ?_⟩, ?_⟩, ?_⟩
        · have h1 := hY.size
          simp [World.setCell]; omega
        · exact (Below.heap_setCell Y ⟨w.heap.size + 1 + 1, 0, none⟩ _ _ (by show w.heap.size ≠ w.heap.size + 1 + 1; omega)).trans ((hY.block _ (by omega)).trans HX02.out)
        · exact (Below.heap_setCell Y ⟨w.heap.size + 1 + 1, 0, none⟩ _ _ (by show w.heap.size + 1 ≠ w.heap.size + 1 + 1; omega)).trans ((hY.block _ (by omega)).trans HX12.out)
        · exact hb9.setCell (p := ⟨w.heap.size + 1 + 1, 0, none⟩) (by show w.heap.size ≤ w.heap.size + 1 + 1; omega) _)
      clear hS e8 f8 hb9 hbox9
      gi_wp2
      exact HFI.out
    · have HE := Lib.hid (HYES.out HG1.out)
      gi_wp2
      exact ⟨HKX.out, HKB.out, ⟨⟨⟨⟨by rw [HE.out]; exact HBOX2.out, hs2⟩, HX02.out⟩, HX12.out⟩, HB2X.out⟩⟩
  case done =>
    rintro D ys X hD rfl ⟨⟨⟨⟨hbx, _⟩, _⟩, _⟩, hbX⟩ hK
    rw [HG.out] at hbx
    have et := hbx.cell
    have HK := Lib.hid hK
    have HBX := Lib.hid hbX
    clear hK hbX hbx
    gi_wp2
    refine ⟨by simp, .inl ⟨_, _, rfl, run_takeDeferred HK.out, ?_⟩⟩
    exact ⟨_, results_tmp rfl _ _ _, rfl, HB.out.trans (Below.mono (HBX.out.trans (belowK_b (w := w) (Nat.le_refl _) _ D _ _ (by omega) HK.out rfl rfl)) hWw)⟩
  case stop =>
    rintro D c pre X hD _ h _
    exact h.elim
end Go.Proofs.YtobgceebolmfcaaDoor
namespace Go.Proofs.YtobgceebolmfcaaDoor
open Go.RowKit Go.Shelf
theorem sm_more {f : Nat → Int} {n : Nat} : ∀ {m : Nat}, n ≤ m → (∀ i, n ≤ i → i < m → f i = 0) → sm m f = sm n f
  | 0, h, _ => by
    have : n = 0 := by omega
    subst this; rfl
  | m + 1, h, h0 => by
    by_cases e : n = m + 1
    · subst e; rfl
    · rw [sm, sm_more (by omega) fun i h1 h2 => h0 i h1 (by omega), h0 m (by omega) (by omega)]; omega
theorem sm_16 (g : Nat → Nat → Int) : sm 16 (fun i => g (i / 4) (i % 4)) = sm 4 fun a => sm 4 (g a) := by
  simp only [sm]
  simp only [Nat.reduceDiv, Nat.reduceMod]
  omega
theorem sm_grid {g : Nat → Nat → Int} {q d : Nat} (hq : q ≤ 4) (hd : d ≤ 4) (h : ∀ a b, (q ≤ a ∨ d ≤ b) → g a b = 0) : sm 16 (fun i => g (i / 4) (i % 4)) = sm q fun a => sm d (g a) := by
  rw [sm_16, sm_more hq fun a h1 _ => ?_]
  · exact sm_congr fun a _ => sm_more hd fun b h1 _ => h a b (.inr h1)
  · rw [sm_congr (g := fun _ => 0) fun b _ => h a b (.inl h1), sm_zero]
theorem cnt_filter (f : Nat → Bool) : ∀ n : Nat, ((((List.range n).filter f).length : Nat) : Int) = sm n fun i => if f i = true then 1 else 0
  | 0 => rfl
  | n + 1 => by
    rw [List.range_succ, List.filter_append, List.length_append, sm, ← cnt_filter f n]
    cases h : f n <;> simp [h]
theorem popN_cnt {h : Nat → Nat → Bool} {q d : Nat} (hq : q ≤ 4) (hd : d ≤ 4) (h0 : ∀ a b, h a b = true → a < q ∧ b < d) : ((popN (enc h) : Nat) : Int) = cnt2 q d h := by
  unfold popN cnt2
  rw [cnt_filter, ← sm_grid (g := fun a b => if h a b = true then (1 : Int) else 0) hq hd fun a b hab => if_neg fun e => by have := h0 a b e; omega]
  exact sm_congr fun i hi => by rw [enc_bit]; simp [hi]
theorem sumP_up (t : Tb) (x : Nat) : ∀ i, i ≤ 16 → sumP t (upP x i) = sm i fun k => if x.testBit k = true then cF t (k / 4) (k % 4) else 0
  | 0, _ => by rw [upP_zero]; rfl
  | i + 1, h => by
    rw [upP_succ (show i < 16 by omega), sm, ← sumP_up t x i (by omega)]
    unfold pick sumP
    rw [List.map_append, List.sum_append]
    congr 1
    by_cases e : x.testBit i = true
    · rw [dif_pos e, if_pos e]; simp [cP]
    · rw [dif_neg e, if_neg e]; rfl
theorem mask_out {t : Tb} {m : Mk} (h : mkOk t m = true) {a b : Nat} (e : hF m a b = true) : a < t.length ∧ b < wd t := by
  constructor
  · refine Classical.byContradiction fun hn => ?_
    rw [hF_out1 (by rw [mk_len h]; omega)] at e; cases e
  · refine Classical.byContradiction fun hn => ?_
    by_cases h1 : a < t.length
    · rw [hF_out2 (by rw [mk_row h h1]; omega)] at e; cases e
    · rw [hF_out1 (by rw [mk_len h]; omega)] at e; cases e
theorem sumP_cost {t : Tb} {m : Mk} (h : mkOk t m = true) : sumP t (allP (enc (hF m))) = costN t m := by
  have ht := mk_tab h
  rw [costN_yes h, ← upP_all, sumP_up t _ 16 (Nat.le_refl _), ← sm_grid (g := costF t m) ht.h4 ht.w4 fun a b hab => ?_]
  · exact sm_congr fun i hi => by rw [enc_bit]; simp [hi, costF]
  · unfold costF
    rw [if_neg fun e => by have := mask_out h e; omega]
theorem unmet_cnt {t : Tb} {f m : Mk} {n : Int} (h : pOk3 t f m n = true) : ((popN (enc (unF t f m n)) : Nat) : Int) = needN t f m n := by
  obtain ⟨h1, _⟩ := pOk3_iff.1 h
  have ht := mk_tab h1
  rw [needN_yes h]
  refine popN_cnt ht.h4 ht.w4 fun a b e => mask_out h1 ?_
  unfold unF at e
  rw [Bool.and_eq_true] at e; exact e.1
set_option maxRecDepth 100000 in
set_option maxHeartbeats 2000000 in
theorem iNeed_is (W : World) (t : Tb) (v : Value) (hv : IsR W v t) (f : Mk) (u : Value) (hu : IsM W u f) (m : Mk) (u2 : Value) (hu2 : IsM W u2 m) (n : Int) (g : Int) (hg : needN t f m n = g) (w : World) (hb : Below W.heap.size W w) (hT : TabW W) :
    Calls Tryd.prog 17 #[v, u, u2, .int .i64 n] w (Back (.int .i64 g) W) := by
  obtain ⟨A, c, rfl, _, _, _⟩ := id hv
  obtain ⟨q, hq⟩ : ∃ q, t.length = q := ⟨_, rfl⟩
  obtain ⟨d, hd⟩ : ∃ d, wd t = d := ⟨_, rfl⟩
  have HQ := Lib.hid hq
  have HD := Lib.hid hd
  rw [hq] at hv ⊢
  have HV := Lib.hid hv
  have HU := Lib.hid hu
  have HU2 := Lib.hid hu2
  have HB := Lib.hid hb
  have HT := Lib.hid hT
  have HG := Lib.hid hg
  clear hv hu hu2 hb hT hg hq hd
  go_enter Tryd.func17, Tryd.ntmps17
  go_wp2_with fail
  refine (iDemW_is W t _ HV.out f _ HU.out m _ HU2.out n w HB.out).mono ?_
  rintro e w1 ⟨b1, ⟨h1, a, b, A', k', c', f', n', z, rfl⟩ | ⟨h1, rfl⟩⟩
  · obtain ⟨w2, hw2, b2, hz2, k2⟩ := one_blk w1 #[.int .i64 a, .int .i64 b, .slice A' k' c', .int .u64 f', .int .i64 n'] TDm
    have HE := Lib.hid (show g = -1 by rw [← HG.out]; exact needN_no h1)
    have HF := Lib.hid (b1.trans (b2.mono b1.size))
    have HW2 := Lib.hid hw2.symm
    clear b1 b2 hw2 h1 k2
    go_wp2
    rw [HW2.out]
    go_ret
    exact ⟨by rw [HE.out]; rfl, HF.out⟩
  · obtain ⟨hf, hm, hn0, hn9⟩ := pOk3_iff.1 h1
    have HCN := Lib.hid ((unmet_cnt h1).trans HG.out)
    obtain ⟨r, hr⟩ : ∃ r, enc (unF t f m n) = r := ⟨_, rfl⟩
    have hr16 : r < 65536 := by rw [← hr]; exact enc_lt _
    obtain ⟨w2, hw2, b2, hz2, k2⟩ := one_blk w1 #[.int .i64 t.length, .int .i64 (wd t), .slice A q c, patV (enc (hF f)), .int .i64 n] TDm
    have HB2 := Lib.hid (b1.trans (b2.mono b1.size))
    have HS := Lib.hid (iUnmet_is w2 t _ (HV.out.below HB2.out) f m hf hm n ⟨hn0, hn9⟩ r hr w2 (Below.refl _ _) (HT.out.below HB2.out))
    have HW2 := Lib.hid hw2.symm
    rw [hr] at HCN
    obtain ⟨x0, x1, x2, x3, x4⟩ := blk5 k2
    generalize enc (hF f) = fp at *
    generalize enc (hF m) = mp at *
    rw [HQ.out, HD.out] at HS HW2 ⊢
    rw [HQ.out] at x0
    rw [HD.out] at x1
    rw [← HW2.out] at x0 x1 x2 x3 x4
    clear b1 b2 hw2 h1 hf hm k2 hr
    go_wp2_with fail
    rw [HW2.out]
    refine HS.out.mono ?_
    rintro e w3 ⟨rfl, b3⟩
    have HB3 := Lib.hid (HB2.out.trans (b3.mono HB2.out.size))
    clear b3 x0 x1 x2 x3 x4
    go_wp2_with fail
    refine (iMany2_is r hr16 w3).mono ?_
    rintro e w4 ⟨rfl, rfl⟩
    rw [HCN.out]
    go_wp2
    go_ret
    exact ⟨rfl, HB3.out⟩
set_option maxHeartbeats 1000000 in
theorem iOk_is (W : World) (t : Tb) (v : Value) (hv : IsR W v t) (f : Mk) (u : Value) (hu : IsM W u f) (m : Mk) (u2 : Value) (hu2 : IsM W u2 m) (n : Int) (g : Bool) (hg : decide (needN t f m n = 0) = g) (w : World) (hb : Below W.heap.size W w) (hT : TabW W) :
    Calls Tryd.prog 21 #[v, u, u2, .int .i64 n] w (Back (.bool g) W) := by
  obtain ⟨x, hx⟩ : ∃ x, needN t f m n = x := ⟨_, rfl⟩
  have HS := Lib.hid (iNeed_is W t v hv f u hu m u2 hu2 n x hx w hb hT)
  rw [hx] at hg
  have HG := Lib.hid hg
  clear hv hu hu2 hb hT hg hx
  go_enter Tryd.func21, Tryd.ntmps21
  go_wp2_with fail
  refine HS.out.mono ?_
  rintro e w1 ⟨rfl, b1⟩
  go_wp2
  go_ret
  exact ⟨retb (by rw [← HG.out, Bool.eq_iff_iff]; simp), b1⟩
set_option maxRecDepth 100000 in
set_option maxHeartbeats 2000000 in
theorem iCost_is (W : World) (t : Tb) (v : Value) (hv : IsR W v t) (m : Mk) (u : Value) (hu : IsM W u m) (g : Int) (hg : costN t m = g) (w : World) (hb : Below W.heap.size W w) (hT : TabW W) :
    Calls Tryd.prog 25 #[v, u] w (Back (.int .i64 g) W) := by
  obtain ⟨A, c, rfl, _, _, _⟩ := id hv
  obtain ⟨q, hq⟩ : ∃ q, t.length = q := ⟨_, rfl⟩
  obtain ⟨d, hd⟩ : ∃ d, wd t = d := ⟨_, rfl⟩
  have HQ := Lib.hid hq
  have HD := Lib.hid hd
  rw [hq] at hv ⊢
  have HV := Lib.hid hv
  have HU := Lib.hid hu
  have HB := Lib.hid hb
  have HT := Lib.hid hT
  have HG := Lib.hid hg
  obtain ⟨tk, htk⟩ : ∃ tk, tabOk t = tk := ⟨_, rfl⟩
  have HTK := Lib.hid htk
  obtain ⟨mk, hmk⟩ : ∃ mk, mkOk t m = mk := ⟨_, rfl⟩
  have HMK := Lib.hid hmk
  clear hv hu hb hT hg hq hd
  have hno : mk = false → g = -1 := fun h => by rw [← HG.out]; exact costN_no (by rw [hmk, h])
  cases tk
  · have HE := Lib.hid (hno (by
      cases e : mk
      · rfl
      · rw [e] at hmk; have := tab_iff.2 (mk_tab hmk); rw [this] at htk; cases htk))
    clear hno htk hmk
    go_enter Tryd.func25, Tryd.ntmps25
    go_wp2_with fail
    refine (iTGrid_is W t _ HV.out false HTK.out w HB.out).mono ?_
    rintro e w1 ⟨rfl, b1⟩
    rw [gridV_no]
    obtain ⟨w2, hw2, b2, hz2, k2⟩ := one_blk w1 #[.int .i64 0, .int .i64 0, .slice none 0 0] TGI
    have HF := Lib.hid (b1.trans (b2.mono b1.size))
    have HW2 := Lib.hid hw2.symm
    clear b1 b2 hw2 k2
    go_wp2
    rw [HW2.out]
    go_ret
    exact ⟨by rw [HE.out]; rfl, HF.out⟩
  have HNO := Lib.hid hno
  clear hno htk
  go_enter Tryd.func25, Tryd.ntmps25
  go_wp2_with fail
  refine (iTGrid_is W t _ HV.out true HTK.out w HB.out).mono ?_
  rintro e w1 ⟨rfl, b1⟩
  rw [gridV_yes, HQ.out, HD.out]
  obtain ⟨w2, hw2, b2, hz2, k2⟩ := one_blk w1 #[.int .i64 q, .int .i64 d, .slice A q c] TGI
  have HB2 := Lib.hid (b1.trans (b2.mono b1.size))
  have HK2 := Lib.hid (show ∀ X, Below w2.heap.size w2 X → X.heap[w1.heap.size]? = some (.cells #[.int .i64 q, .int .i64 d, .slice A q c] TGI (0, 0)) from fun X h => (h.block _ (by omega)).trans k2)
  have HW2 := Lib.hid hw2.symm
  clear b1 b2 hw2 k2
  go_wp2_with fail
  rw [HW2.out]
  refine (iPOf_is w2 t _ (HV.out.below HB2.out) m _ (HU.out.below HB2.out) mk HMK.out w2 (Below.refl _ _)).mono ?_
  rintro e w3 ⟨rfl, b3⟩
  have HB3 := Lib.hid (HB2.out.trans (b3.mono HB2.out.size))
  cases mk
  · have HE := Lib.hid (HNO.out rfl)
    clear b3 hmk
    go_wp2
    go_ret
    exact ⟨by rw [HE.out]; rfl, HB3.out⟩
  · have ht := mk_tab hmk
    have hr : ∀ k, k < q → (t.getD k []).length = d := fun k hk => by rw [ht.rlen (by rw [HQ.out]; exact hk)]; exact HD.out
    have hc : ∀ k l, k < q → l < d → 0 ≤ cF t k l ∧ cF t k l ≤ 99 := fun k l hk hl => ht.cell (by rw [HQ.out]; exact hk) (by rw [HD.out]; exact hl)
    have hin := mask_in hmk
    rw [HQ.out, HD.out] at hin
    have hsum := sumP_cost hmk
    rw [HG.out] at hsum
    rw [encM_yes]
    have hx := enc_lt (hF m)
    generalize enc (hF m) = x at hin hsum hx ⊢
    have HS := Lib.hid (iPCost_is w3 t _ (HV.out.below HB3.out) q d HQ.out hr hc x hx hin (by have := ht.h1; have := HQ.out; omega) g hsum w3 (Below.refl _ _) (HT.out.below HB3.out))
    obtain ⟨y0, y1, y2, _, _, _⟩ := blkG3 (HK2.out w3 b3)
    clear b3 hmk ht hr hc hin hsum
    go_wp2_with fail
    refine HS.out.mono ?_
    rintro e w4 ⟨rfl, b4⟩
    have HF := Lib.hid (HB3.out.trans (b4.mono HB3.out.size))
    clear b4 y0 y1 y2
    go_wp2
    go_ret
    exact ⟨rfl, HF.out⟩
end Go.Proofs.YtobgceebolmfcaaDoor
