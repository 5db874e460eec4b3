/- Contributions: the exact laws. -/
import Derived.Test.YthhoimdmpmjmiaaRM4
namespace Go.Proofs.Ythhoimdmpmjmiaa
open Go.RowKit
theorem set_midv (l : List Value) (z : Value) (k : Nat) (hk : k < l.length) : (l.take k ++ List.replicate (l.length - k) z).set k l[k] = l.take (k + 1) ++ List.replicate (l.length - (k + 1)) z := by
  have e : l.length - k = (l.length - (k + 1)) + 1 := by omega
  have hl : (l.take k).length = k := by simp; omega
  rw [e, List.replicate_succ, List.set_append_right _ _ (by omega), hl, Nat.sub_self, List.set_cons_zero, List.take_succ_eq_append_getElem hk, List.append_assoc]; rfl
/-- A row anew, in one block of its own. -/
def CopiedI (x : List Int) (n : Nat) (w : World) (e : Ending) (w' : World) : Prop := ∃ g, e = .returned (.slice (some ⟨g, 0, none⟩) n n) ∧ w.heap.size ≤ g ∧ Own1 TN w' w.heap.size (.slice (some ⟨g, 0, none⟩) n n) (icells x) ∧ Below w.heap.size w w'
theorem toIntS_any (x : List Int) (n : Nat) (hn : n = x.length) (A : Option Addr) (c : Nat) (hl : n ≤ 1048576) (w : World) (hr : Row w w.heap.size A (icells x)) :
    Calls Try.prog 10 #[.slice A n c] w (CopiedI x n w) := by
  obtain ⟨ht, z, b, hi, hz1, hb8⟩ := one_I
  obtain ⟨i0, hi0, hz0, hs0, hs1⟩ := info_parts (P := Try.prog) (e := TN) (z := .int .i64 0) (size := 1) (bytes := 8) (by kernel_rfl)
  clear ht hi hz1 hb8
  have HN := Lib.hid hn; clear hn
  go_enter Try.func10, Try.ntmps10
  go_wp2_with (at_make; go_loud (refine wpList_make_full _ rfl _ _ TI rfl w.heap.size TN i0 (.int .i64 0) 1 Try.underlying22 hi0 hz0 hs0 _ _ _ _ n rfl rfl rfl rfl (by rw [hs1]; omega) (by simp only [maxLen]; omega) (Nat.le_refl _) ?_); intro w1 ho hg)
  have ho1 : Own1 TN w1 w.heap.size (.slice (some ⟨w.heap.size, 0, none⟩) n n) ((icells x).take 0 ++ List.replicate ((icells x).length - 0) (.int .i64 0)) := by
    have h := ho
    have e : (Value.int IntKind.i64 0).cells = #[.int .i64 0] := rfl
    rw [e, made_one] at h
    have hl : (icells x).length = n := by rw [icells_len, HN.out]
    unfold Own1
    simpa [hl] using h
  have HO := Lib.hid ho1
  have HB := Lib.hid (show Below w.heap.size w w1 from (Below.refl _ _).grown hg (Nat.le_refl _) (fun k hk => by cases hk))
  have hz := hg.size
  clear ho ho1 hg
  have hg1 := (HO.out.ob w.heap.size rfl).2
  obtain ⟨G, hG⟩ : ∃ G, w.heap.size = G := ⟨_, rfl⟩
  rw [hG] at HO HB hz hg1 hr ⊢
  have HG := Lib.hid hG; clear hG
  go_wp2
  go_loopw [4] (fun i wr => ∃ k : Nat, k ≤ n ∧ i = .int .i64 k ∧ Own1 TN wr G (.slice (some ⟨G, 0, none⟩) n n) ((icells x).take k ++ List.replicate ((icells x).length - k) (.int .i64 0)) ∧ Below G w wr) (fun i _ => n - (intOf i).toNat)
  case atStart => exact ⟨0, Nat.zero_le _, rfl, HO.out, HB.out⟩
  case round =>
    obtain ⟨k, hk, rfl, ho, hb⟩ := hrel
    clear HO HB
    have HO := Lib.hid ho; clear ho
    have HLX := Lib.hid (show (icells x).length = n by rw [icells_len, HN.out])
    by_cases hlt : k < n
    · have hki : (k : Int) < (n : Int) := by omega
      obtain ⟨b, o, rfl, hbw, c0⟩ := (hr.below hb (Nat.le_refl _)).int_ k (by rw [← HN.out]; exact hlt)
      have hkl : k < ((icells x).take k ++ List.replicate ((icells x).length - k) (Value.int .i64 0)).length := by simp [HLX.out]; omega
      have f0 := (HO.out.cellAt k hkl).2
      have hkx : k < (icells x).length := by rw [HLX.out]; exact hlt
      have hs := HO.out.setAt k (.int .i64 (x.getD k 0))
      have hxk : (icells x)[k] = .int .i64 (x.getD k 0) := by
        have h := icells_get (x := x) (k := k) (by rw [← HN.out]; exact hlt)
        rw [List.getElem?_eq_getElem hkx] at h; injection h
      rw [← hxk, set_midv (icells x) _ k hkx, hxk] at hs
      have HS := Lib.hid hs
      have hcell := (HO.out.cellAt k hkl).1
      obtain ⟨u, hu⟩ : ∃ u, ((icells x).take k ++ List.replicate ((icells x).length - k) (Value.int .i64 0))[k]? = some u := ⟨_, List.getElem?_eq_getElem hkl⟩
      rw [hu] at hcell
      clear hs hkl hkx hxk hu
      generalize x.getD k 0 = y at *
      go_wp2
      go_roundw
      case rel => exact ⟨k + 1, by omega, by go_num, HS.out, hb.setCell (p := ⟨G, k, none⟩) (Nat.le_refl G) _⟩
      case measure => simp [intOf]; omega
    · go_wp2
      go_ret
      have h := HO.out
      rw [List.take_of_length_le (by rw [HLX.out]; omega), show (icells x).length - k = 0 by rw [HLX.out]; omega, List.replicate_zero, List.append_nil] at h
      exact ⟨G, rfl, Nat.le_of_eq HG.out, by rw [HG.out]; exact h, by rw [HG.out]; exact hb⟩
theorem eqI_at (x : List Int) (A B : Option Addr) (n1 n2 c d : Nat) (h1 : n1 = x.length) (h2 : n2 = x.length) (hl : x.length ≤ maxLen) (w : World) (ha : Row w w.heap.size A (icells x)) (hb : Row w w.heap.size B (icells x)) :
    Calls Try.prog 12 #[.slice A n1 c, .slice B n2 d] w (QR (.bool true) w) := by
  obtain rfl : n2 = n1 := by omega
  have H1 := Lib.hid h1
  have hl2 : n2 ≤ 2 ^ 63 - 1 := by rw [h1]; exact hl
  clear h1 h2 hl
  go_enter Try.func12, Try.ntmps12
  go_wp2
  go_loopw [5] (fun i wr => ∃ k m : Nat, k ≤ n2 ∧ i = .int .i64 k ∧ wr = w.drewN m) (fun i _ => n2 - (intOf i).toNat)
  case atStart => exact ⟨0, 0, Nat.zero_le _, rfl, rfl⟩
  case round =>
    obtain ⟨k, m, hk, rfl, hw⟩ := hrel
    have HW := Lib.hid hw; clear hw
    by_cases hlt : k < n2
    · have hki : (k : Int) < (n2 : Int) := by omega
      obtain ⟨b, o, rfl, _, c0⟩ := ha.int_ k (by rw [← H1.out]; exact hlt)
      obtain ⟨b2, o2, rfl, _, c1⟩ := hb.int_ k (by rw [← H1.out]; exact hlt)
      have c0' : wr.cell? ⟨b, o + k, none⟩ = some (.int .i64 (x.getD k 0)) := by rw [HW.out]; exact c0
      have c1' : wr.cell? ⟨b2, o2 + k, none⟩ = some (.int .i64 (x.getD k 0)) := by rw [HW.out]; exact c1
      clear c0 c1 ha hb
      generalize x.getD k 0 = y at *
      go_wp2
      go_quiet (fail)
      go_wp2
      go_roundw
      case rel => exact ⟨k + 1, m + nq, by omega, by go_num, by rw [HW.out, World.drewN_drewN]⟩
      case measure => simp [intOf]; omega
    · go_wp2
      go_ret
      exact ⟨rfl, m, HW.out⟩
/-- A slice of integers that came in. -/
def IsRowV (k : IntKind) (w : World) (a : Option Addr) (len cap : Nat) (zs : List Int) : Prop :=
  (a = none ∧ len = 0 ∧ cap = 0 ∧ zs = []) ∨
  ∃ x, a = some x ∧ len ≤ cap ∧ cap ≤ maxLen ∧ zs.length = cap ∧ (∀ i, i < zs.length → w.cell? (x.add i) = some (.int k (zs.getD i 0))) ∧ ∀ n ∈ zs, (Lit.int k n).wf = true
theorem isV_row {w : World} {a : Option Addr} {len cap : Nat} {zs : List Int} (h : IsRowV .i64 w a len cap zs) : IsI w (.slice a len cap) (zs.take len) := by
  rcases h with ⟨rfl, rfl, rfl, rfl⟩ | ⟨x, rfl, h1, h2, hz, hc, _⟩
  · exact ⟨none, 0, rfl, by simp, by simp [maxLen], .nil _ _ _⟩
  · have hl : (zs.take len).length = len := by rw [List.length_take]; omega
    refine ⟨some x, cap, by rw [hl], by rw [hl]; exact h1, h2, ?_⟩
    by_cases h0 : len = 0
    · subst h0; left; simp [icells]
    · obtain ⟨b, o, spot⟩ := x
      have hc0 := hc 0 (by omega)
      have hs : spot = none := by simpa [Addr.add] using World.cell?_spot hc0
      subst hs
      refine .inr ⟨b, o, rfl, by have := block_lt_of_cell hc0; simpa [Addr.add] using this, fun j u hu => ?_⟩
      have hj : j < (zs.take len).length := by
        rcases Nat.lt_or_ge j (zs.take len).length with h | h
        · exact h
        · rw [List.getElem?_eq_none (by rw [icells_len]; exact h)] at hu; cases hu
      rw [icells_get hj] at hu
      injection hu with hu
      have hcj := hc j (by omega)
      rw [Addr.add_lit] at hcj
      rw [hcj, ← hu]
      congr 2
      rw [List.getD_eq_getElem?_getD, List.getD_eq_getElem?_getD, List.getElem?_take, if_pos (by omega)]
theorem toI_is (x : List Int) (v : Value) (w : World) (hv : IsI w v x) (hl : x.length ≤ 1048576) : Calls Try.prog 10 #[v] w (OutI x w) := by
  obtain ⟨A, c, rfl, _, _, hr⟩ := hv
  refine (toIntS_any x _ rfl A c hl w hr).mono ?_
  rintro e w' ⟨g, rfl, _, ho, hb⟩
  exact ⟨_, rfl, ⟨Nat.le_refl _, ho, fun k e => (ho.ob k e).2⟩, hb⟩
theorem eqI_is (x : List Int) (v u : Value) (w : World) (hv : IsI w v x) (hu : IsI w u x) : Calls Try.prog 12 #[v, u] w (Back (.bool true) w) := by
  obtain ⟨A, c, rfl, h1, h2, hr⟩ := hv
  obtain ⟨A2, c2, rfl, _, _, hr2⟩ := hu
  refine (eqI_at x A A2 _ _ c c2 rfl rfl (Nat.le_trans h1 h2) w hr hr2).mono ?_
  rintro e w' ⟨rfl, m, rfl⟩
  exact ⟨rfl, below_draws (Below.refl _ _) m⟩
set_option maxHeartbeats 1000000 in
theorem w_ExactPartsValid (a0 : Option Addr) (len0 cap0 : Nat) (z0 : List Int) (w : World) (w0 : IsRowV .i64 w a0 len0 cap0 z0) :
    Calls Try.prog 3 #[.slice a0 len0 cap0] w fun e w' => e = .returned (.bool true) ∧ Below w.heap.size w w' := by
  have hv := isV_row w0
  obtain ⟨l, hl⟩ : ∃ l, l = z0.take len0 := ⟨_, rfl⟩
  rw [← hl] at hv
  have hll : l.length = len0 := by obtain ⟨A, c, e, _⟩ := hv; injection e with _ e2 _; exact e2.symm
  have hlm : len0 ≤ 2 ^ 63 - 1 := by obtain ⟨A, c, e, h1, h2, _⟩ := hv; have : maxLen = 2 ^ 63 - 1 := rfl; omega
  clear w0 hl
  have HV := Lib.hid hv
  obtain ⟨g, hg⟩ : ∃ g, pOk l = g := ⟨_, rfl⟩
  have HG := Lib.hid hg
  have HL := Lib.hid hll
  clear hv hg hll
  by_cases hbig : 1048576 < len0
  · go_enter Try.func3, Try.ntmps3
    go_wp2
    go_ret
    exact ⟨rfl, Below.refl _ _⟩
  · have HLL := Lib.hid (show l.length ≤ 1048576 by rw [HL.out]; omega)
    go_enter Try.func3, Try.ntmps3
    go_wp2_with fail
    refine (toI_is l _ w HV.out HLL.out).mono ?_
    rintro e w1 ⟨v1, rfl, h1, b1⟩
    have H1 := Lib.hid h1.is
    have HV1 := Lib.hid (HV.out.below b1)
    have B1 := Lib.hid b1
    clear h1 b1
    go_wp2_with fail
    refine (sPV_any l v1 _ H1.out _ HG.out).mono ?_
    rintro e w2 ⟨rfl, rfl⟩
    have B2 := B1
    have HV2 := HV1
    go_wp2_with fail
    refine (toI_is l _ w1 HV2.out HLL.out).mono ?_
    rintro e w3 ⟨v3, rfl, h3, b3⟩
    have H3 := Lib.hid h3.is
    have HV3 := Lib.hid (HV2.out.below b3)
    have B3 := Lib.hid (B2.out.trans (b3.mono B2.out.size))
    clear h3 b3
    go_wp2_with fail
    refine (iPV_any l v3 _ H3.out _ HG.out).mono ?_
    rintro e w4 ⟨rfl, rfl⟩
    have B4 := B3
    have HV4 := HV3
    have H4 := H3
    go_wp2_with fail
    refine (toI_is l _ w3 HV4.out HLL.out).mono ?_
    rintro e w5 ⟨v5, rfl, h5, b5⟩
    have H5 := Lib.hid h5.is
    have H45 := Lib.hid (H4.out.below b5)
    have B5 := Lib.hid (B4.out.trans (b5.mono B4.out.size))
    clear h5 b5
    go_wp2_with fail
    refine (eqI_is l v3 v5 _ H45.out H5.out).mono ?_
    rintro e w6 ⟨rfl, b6⟩
    have B6 := Lib.hid (B5.out.trans (b6.mono B5.out.size))
    clear b6
    go_wp2
    go_ret
    exact ⟨rfl, B6.out⟩
set_option maxHeartbeats 1000000 in
theorem w_ExactPartsTop (a0 : Option Addr) (len0 cap0 : Nat) (z0 : List Int) (n : Int) (w : World) (w0 : IsRowV .i64 w a0 len0 cap0 z0) (_w1 : (Lit.int .i64 n).wf = true) :
    Calls Try.prog 4 #[.slice a0 len0 cap0, .int .i64 n] w fun e w' => e = .returned (.bool true) ∧ Below w.heap.size w w' := by
  have hv := isV_row w0
  obtain ⟨l, hl⟩ : ∃ l, l = z0.take len0 := ⟨_, rfl⟩
  rw [← hl] at hv
  have hll : l.length = len0 := by obtain ⟨A, c, e, _⟩ := hv; injection e with _ e2 _; exact e2.symm
  have hlm : len0 ≤ 2 ^ 63 - 1 := by obtain ⟨A, c, e, h1, h2, _⟩ := hv; have : maxLen = 2 ^ 63 - 1 := rfl; omega
  clear w0 hl
  have HV := Lib.hid hv
  obtain ⟨g, hg⟩ : ∃ g, topI l n = g := ⟨_, rfl⟩
  have HG := Lib.hid hg
  have HL := Lib.hid hll
  clear hv hg hll
  by_cases hbig : 1048576 < len0
  · go_enter Try.func4, Try.ntmps4
    go_wp2
    go_ret
    exact ⟨rfl, Below.refl _ _⟩
  · have HLL := Lib.hid (show l.length ≤ 1048576 by rw [HL.out]; omega)
    go_enter Try.func4, Try.ntmps4
    go_wp2_with fail
    refine (toI_is l _ w HV.out HLL.out).mono ?_
    rintro e w1 ⟨v1, rfl, h1, b1⟩
    have H1 := Lib.hid h1.is
    have HV1 := Lib.hid (HV.out.below b1)
    have B1 := Lib.hid b1
    clear h1 b1
    go_wp2_with fail
    refine (sTop_is w1 l v1 H1.out n _ HG.out _ (Below.refl _ _)).mono ?_
    rintro e w2 ⟨rfl, b2⟩
    have B2 := Lib.hid (B1.out.trans (b2.mono B1.out.size))
    have HV2 := Lib.hid (HV1.out.below b2)
    clear b2
    go_wp2_with fail
    refine (toI_is l _ w2 HV2.out HLL.out).mono ?_
    rintro e w3 ⟨v3, rfl, h3, b3⟩
    have H3 := Lib.hid h3.is
    have HV3 := Lib.hid (HV2.out.below b3)
    have B3 := Lib.hid (B2.out.trans (b3.mono B2.out.size))
    clear h3 b3
    go_wp2_with fail
    refine (iPartsTop_is w3 l v3 H3.out n _ HG.out _ (Below.refl _ _)).mono ?_
    rintro e w4 ⟨rfl, b4⟩
    have B4 := Lib.hid (B3.out.trans (b4.mono B3.out.size))
    have HV4 := Lib.hid (HV3.out.below b4)
    have H4 := Lib.hid (H3.out.below b4)
    clear b4
    go_wp2_with fail
    refine (toI_is l _ w4 HV4.out HLL.out).mono ?_
    rintro e w5 ⟨v5, rfl, h5, b5⟩
    have H5 := Lib.hid h5.is
    have H45 := Lib.hid (H4.out.below b5)
    have B5 := Lib.hid (B4.out.trans (b5.mono B4.out.size))
    clear h5 b5
    go_wp2_with fail
    refine (eqI_is l v3 v5 _ H45.out H5.out).mono ?_
    rintro e w6 ⟨rfl, b6⟩
    have B6 := Lib.hid (B5.out.trans (b6.mono B5.out.size))
    clear b6
    go_wp2
    go_ret
    exact ⟨rfl, B6.out⟩
set_option maxHeartbeats 1000000 in
theorem w_ExactPartsFew (a0 : Option Addr) (len0 cap0 : Nat) (z0 : List Int) (n : Int) (w : World) (w0 : IsRowV .i64 w a0 len0 cap0 z0) (_w1 : (Lit.int .i64 n).wf = true) :
    Calls Try.prog 5 #[.slice a0 len0 cap0, .int .i64 n] w fun e w' => e = .returned (.bool true) ∧ Below w.heap.size w w' := by
  have hv := isV_row w0
  obtain ⟨l, hl⟩ : ∃ l, l = z0.take len0 := ⟨_, rfl⟩
  rw [← hl] at hv
  have hll : l.length = len0 := by obtain ⟨A, c, e, _⟩ := hv; injection e with _ e2 _; exact e2.symm
  have hlm : len0 ≤ 2 ^ 63 - 1 := by obtain ⟨A, c, e, h1, h2, _⟩ := hv; have : maxLen = 2 ^ 63 - 1 := rfl; omega
  clear w0 hl
  have HV := Lib.hid hv
  obtain ⟨g, hg⟩ : ∃ g, fewI l n = g := ⟨_, rfl⟩
  have HG := Lib.hid hg
  have HL := Lib.hid hll
  clear hv hg hll
  by_cases hbig : 1048576 < len0
  · go_enter Try.func5, Try.ntmps5
    go_wp2
    go_ret
    exact ⟨rfl, Below.refl _ _⟩
  · have HLL := Lib.hid (show l.length ≤ 1048576 by rw [HL.out]; omega)
    go_enter Try.func5, Try.ntmps5
    go_wp2_with fail
    refine (toI_is l _ w HV.out HLL.out).mono ?_
    rintro e w1 ⟨v1, rfl, h1, b1⟩
    have H1 := Lib.hid h1.is
    have HV1 := Lib.hid (HV.out.below b1)
    have B1 := Lib.hid b1
    clear h1 b1
    go_wp2_with fail
    refine (sFew_is w1 l v1 H1.out n _ HG.out _ (Below.refl _ _)).mono ?_
    rintro e w2 ⟨rfl, b2⟩
    have B2 := Lib.hid (B1.out.trans (b2.mono B1.out.size))
    have HV2 := Lib.hid (HV1.out.below b2)
    clear b2
    go_wp2_with fail
    refine (toI_is l _ w2 HV2.out HLL.out).mono ?_
    rintro e w3 ⟨v3, rfl, h3, b3⟩
    have H3 := Lib.hid h3.is
    have HV3 := Lib.hid (HV2.out.below b3)
    have B3 := Lib.hid (B2.out.trans (b3.mono B2.out.size))
    clear h3 b3
    go_wp2_with fail
    refine (iPartsFew_is w3 l v3 H3.out n _ HG.out _ (Below.refl _ _)).mono ?_
    rintro e w4 ⟨rfl, b4⟩
    have B4 := Lib.hid (B3.out.trans (b4.mono B3.out.size))
    have HV4 := Lib.hid (HV3.out.below b4)
    have H4 := Lib.hid (H3.out.below b4)
    clear b4
    go_wp2_with fail
    refine (toI_is l _ w4 HV4.out HLL.out).mono ?_
    rintro e w5 ⟨v5, rfl, h5, b5⟩
    have H5 := Lib.hid h5.is
    have H45 := Lib.hid (H4.out.below b5)
    have B5 := Lib.hid (B4.out.trans (b5.mono B4.out.size))
    clear h5 b5
    go_wp2_with fail
    refine (eqI_is l v3 v5 _ H45.out H5.out).mono ?_
    rintro e w6 ⟨rfl, b6⟩
    have B6 := Lib.hid (B5.out.trans (b6.mono B5.out.size))
    clear b6
    go_wp2
    go_ret
    exact ⟨rfl, B6.out⟩
set_option maxHeartbeats 1000000 in
theorem w_ExactPartsLead (a0 : Option Addr) (len0 cap0 : Nat) (z0 : List Int) (n : Int) (pc : Int) (w : World) (w0 : IsRowV .i64 w a0 len0 cap0 z0) (_w1 : (Lit.int .i64 n).wf = true) (_w2 : (Lit.int .i64 pc).wf = true) :
    Calls Try.prog 6 #[.slice a0 len0 cap0, .int .i64 n, .int .i64 pc] w fun e w' => e = .returned (.bool true) ∧ Below w.heap.size w w' := by
  have hv := isV_row w0
  obtain ⟨l, hl⟩ : ∃ l, l = z0.take len0 := ⟨_, rfl⟩
  rw [← hl] at hv
  have hll : l.length = len0 := by obtain ⟨A, c, e, _⟩ := hv; injection e with _ e2 _; exact e2.symm
  have hlm : len0 ≤ 2 ^ 63 - 1 := by obtain ⟨A, c, e, h1, h2, _⟩ := hv; have : maxLen = 2 ^ 63 - 1 := rfl; omega
  clear w0 hl
  have HV := Lib.hid hv
  obtain ⟨g, hg⟩ : ∃ g, leadI l n pc = g := ⟨_, rfl⟩
  have HG := Lib.hid hg
  have HL := Lib.hid hll
  clear hv hg hll
  by_cases hbig : 1048576 < len0
  · go_enter Try.func6, Try.ntmps6
    go_wp2
    go_ret
    exact ⟨rfl, Below.refl _ _⟩
  · have HLL := Lib.hid (show l.length ≤ 1048576 by rw [HL.out]; omega)
    go_enter Try.func6, Try.ntmps6
    go_wp2_with fail
    refine (toI_is l _ w HV.out HLL.out).mono ?_
    rintro e w1 ⟨v1, rfl, h1, b1⟩
    have H1 := Lib.hid h1.is
    have HV1 := Lib.hid (HV.out.below b1)
    have B1 := Lib.hid b1
    clear h1 b1
    go_wp2_with fail
    refine (sLead_is w1 l v1 H1.out n pc _ HG.out _ (Below.refl _ _)).mono ?_
    rintro e w2 ⟨rfl, b2⟩
    have B2 := Lib.hid (B1.out.trans (b2.mono B1.out.size))
    have HV2 := Lib.hid (HV1.out.below b2)
    clear b2
    go_wp2_with fail
    refine (toI_is l _ w2 HV2.out HLL.out).mono ?_
    rintro e w3 ⟨v3, rfl, h3, b3⟩
    have H3 := Lib.hid h3.is
    have HV3 := Lib.hid (HV2.out.below b3)
    have B3 := Lib.hid (B2.out.trans (b3.mono B2.out.size))
    clear h3 b3
    go_wp2_with fail
    refine (iPartsLead_is w3 l v3 H3.out n pc _ HG.out _ (Below.refl _ _)).mono ?_
    rintro e w4 ⟨rfl, b4⟩
    have B4 := Lib.hid (B3.out.trans (b4.mono B3.out.size))
    have HV4 := Lib.hid (HV3.out.below b4)
    have H4 := Lib.hid (H3.out.below b4)
    clear b4
    go_wp2_with fail
    refine (toI_is l _ w4 HV4.out HLL.out).mono ?_
    rintro e w5 ⟨v5, rfl, h5, b5⟩
    have H5 := Lib.hid h5.is
    have H45 := Lib.hid (H4.out.below b5)
    have B5 := Lib.hid (B4.out.trans (b5.mono B4.out.size))
    clear h5 b5
    go_wp2_with fail
    refine (eqI_is l v3 v5 _ H45.out H5.out).mono ?_
    rintro e w6 ⟨rfl, b6⟩
    have B6 := Lib.hid (B5.out.trans (b6.mono B5.out.size))
    clear b6
    go_wp2
    go_ret
    exact ⟨rfl, B6.out⟩
set_option maxHeartbeats 1000000 in
theorem w_ExactPartsGuess (a0 : Option Addr) (len0 cap0 : Nat) (z0 : List Int) (pc : Int) (w : World) (w0 : IsRowV .i64 w a0 len0 cap0 z0) (_w1 : (Lit.int .i64 pc).wf = true) :
    Calls Try.prog 7 #[.slice a0 len0 cap0, .int .i64 pc] w fun e w' => e = .returned (.bool true) ∧ Below w.heap.size w w' := by
  have hv := isV_row w0
  obtain ⟨l, hl⟩ : ∃ l, l = z0.take len0 := ⟨_, rfl⟩
  rw [← hl] at hv
  have hll : l.length = len0 := by obtain ⟨A, c, e, _⟩ := hv; injection e with _ e2 _; exact e2.symm
  have hlm : len0 ≤ 2 ^ 63 - 1 := by obtain ⟨A, c, e, h1, h2, _⟩ := hv; have : maxLen = 2 ^ 63 - 1 := rfl; omega
  clear w0 hl
  have HV := Lib.hid hv
  obtain ⟨g, hg⟩ : ∃ g, guessI l pc = g := ⟨_, rfl⟩
  have HG := Lib.hid hg
  have HL := Lib.hid hll
  clear hv hg hll
  by_cases hbig : 1048576 < len0
  · go_enter Try.func7, Try.ntmps7
    go_wp2
    go_ret
    exact ⟨rfl, Below.refl _ _⟩
  · have HLL := Lib.hid (show l.length ≤ 1048576 by rw [HL.out]; omega)
    go_enter Try.func7, Try.ntmps7
    go_wp2_with fail
    refine (toI_is l _ w HV.out HLL.out).mono ?_
    rintro e w1 ⟨v1, rfl, h1, b1⟩
    have H1 := Lib.hid h1.is
    have HV1 := Lib.hid (HV.out.below b1)
    have B1 := Lib.hid b1
    clear h1 b1
    go_wp2_with fail
    refine (sGuess_is w1 l v1 H1.out pc _ HG.out _ (Below.refl _ _)).mono ?_
    rintro e w2 ⟨rfl, b2⟩
    have B2 := Lib.hid (B1.out.trans (b2.mono B1.out.size))
    have HV2 := Lib.hid (HV1.out.below b2)
    clear b2
    go_wp2_with fail
    refine (toI_is l _ w2 HV2.out HLL.out).mono ?_
    rintro e w3 ⟨v3, rfl, h3, b3⟩
    have H3 := Lib.hid h3.is
    have HV3 := Lib.hid (HV2.out.below b3)
    have B3 := Lib.hid (B2.out.trans (b3.mono B2.out.size))
    clear h3 b3
    go_wp2_with fail
    refine (iPartsGuess_is w3 l v3 H3.out pc _ HG.out _ (Below.refl _ _)).mono ?_
    rintro e w4 ⟨rfl, b4⟩
    have B4 := Lib.hid (B3.out.trans (b4.mono B3.out.size))
    have HV4 := Lib.hid (HV3.out.below b4)
    have H4 := Lib.hid (H3.out.below b4)
    clear b4
    go_wp2_with fail
    refine (toI_is l _ w4 HV4.out HLL.out).mono ?_
    rintro e w5 ⟨v5, rfl, h5, b5⟩
    have H5 := Lib.hid h5.is
    have H45 := Lib.hid (H4.out.below b5)
    have B5 := Lib.hid (B4.out.trans (b5.mono B4.out.size))
    clear h5 b5
    go_wp2_with fail
    refine (eqI_is l v3 v5 _ H45.out H5.out).mono ?_
    rintro e w6 ⟨rfl, b6⟩
    have B6 := Lib.hid (B5.out.trans (b6.mono B5.out.size))
    clear b6
    go_wp2
    go_ret
    exact ⟨rfl, B6.out⟩
set_option maxHeartbeats 1000000 in
theorem w_ExactPartsSpare (a0 : Option Addr) (len0 cap0 : Nat) (z0 : List Int) (pc : Int) (w : World) (w0 : IsRowV .i64 w a0 len0 cap0 z0) (_w1 : (Lit.int .i64 pc).wf = true) :
    Calls Try.prog 8 #[.slice a0 len0 cap0, .int .i64 pc] w fun e w' => e = .returned (.bool true) ∧ Below w.heap.size w w' := by
  have hv := isV_row w0
  obtain ⟨l, hl⟩ : ∃ l, l = z0.take len0 := ⟨_, rfl⟩
  rw [← hl] at hv
  have hll : l.length = len0 := by obtain ⟨A, c, e, _⟩ := hv; injection e with _ e2 _; exact e2.symm
  have hlm : len0 ≤ 2 ^ 63 - 1 := by obtain ⟨A, c, e, h1, h2, _⟩ := hv; have : maxLen = 2 ^ 63 - 1 := rfl; omega
  clear w0 hl
  have HV := Lib.hid hv
  obtain ⟨g, hg⟩ : ∃ g, spareI l pc = g := ⟨_, rfl⟩
  have HG := Lib.hid hg
  have HL := Lib.hid hll
  clear hv hg hll
  by_cases hbig : 1048576 < len0
  · go_enter Try.func8, Try.ntmps8
    go_wp2
    go_ret
    exact ⟨rfl, Below.refl _ _⟩
  · have HLL := Lib.hid (show l.length ≤ 1048576 by rw [HL.out]; omega)
    go_enter Try.func8, Try.ntmps8
    go_wp2_with fail
    refine (toI_is l _ w HV.out HLL.out).mono ?_
    rintro e w1 ⟨v1, rfl, h1, b1⟩
    have H1 := Lib.hid h1.is
    have HV1 := Lib.hid (HV.out.below b1)
    have B1 := Lib.hid b1
    clear h1 b1
    go_wp2_with fail
    refine (sSpare_is w1 l v1 H1.out pc _ HG.out _ (Below.refl _ _)).mono ?_
    rintro e w2 ⟨rfl, b2⟩
    have B2 := Lib.hid (B1.out.trans (b2.mono B1.out.size))
    have HV2 := Lib.hid (HV1.out.below b2)
    clear b2
    go_wp2_with fail
    refine (toI_is l _ w2 HV2.out HLL.out).mono ?_
    rintro e w3 ⟨v3, rfl, h3, b3⟩
    have H3 := Lib.hid h3.is
    have HV3 := Lib.hid (HV2.out.below b3)
    have B3 := Lib.hid (B2.out.trans (b3.mono B2.out.size))
    clear h3 b3
    go_wp2_with fail
    refine (iPartsSpare_is w3 l v3 H3.out pc _ HG.out _ (Below.refl _ _)).mono ?_
    rintro e w4 ⟨rfl, b4⟩
    have B4 := Lib.hid (B3.out.trans (b4.mono B3.out.size))
    have HV4 := Lib.hid (HV3.out.below b4)
    have H4 := Lib.hid (H3.out.below b4)
    clear b4
    go_wp2_with fail
    refine (toI_is l _ w4 HV4.out HLL.out).mono ?_
    rintro e w5 ⟨v5, rfl, h5, b5⟩
    have H5 := Lib.hid h5.is
    have H45 := Lib.hid (H4.out.below b5)
    have B5 := Lib.hid (B4.out.trans (b5.mono B4.out.size))
    clear h5 b5
    go_wp2_with fail
    refine (eqI_is l v3 v5 _ H45.out H5.out).mono ?_
    rintro e w6 ⟨rfl, b6⟩
    have B6 := Lib.hid (B5.out.trans (b6.mono B5.out.size))
    clear b6
    go_wp2
    go_ret
    exact ⟨rfl, B6.out⟩
end Go.Proofs.Ythhoimdmpmjmiaa
