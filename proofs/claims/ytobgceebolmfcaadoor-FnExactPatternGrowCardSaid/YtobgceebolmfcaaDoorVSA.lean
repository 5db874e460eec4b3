/- The model's patterns: safe cells, cells that need more, costs. The model's patterns: how many cells need more, which is the first one, what cells cost. The model's patterns: a mask copied, the first cell that is not safe, the cost of a rectangle. The model's patterns: a step. The model's patterns: growing, costs. -/
import Derived.Test.YtobgceebolmfcaaDoorVMA
import Derived.Test.YtobgceebolmfcaaDoorWN0
import Derived.Test.YtobgceebolmfcaaDoorRQ
import Derived.Test.YtobgceebolmfcaaDoorTLA
import Derived.Test.YtobgceebolmfcaaDoorTS7
import Derived.Deep.Cut
namespace Go.Proofs.YtobgceebolmfcaaDoor
open Go.RowKit
set_option maxRecDepth 100000 in
set_option maxHeartbeats 2000000 in
theorem sSafe1_is (W : World) (t : Tb) (v : Value) (hv : IsR W v t) (m : Mk) (u : Value) (hu : IsM W u m) (hm : mkOk t m = true) (n : Int) (hn : 0 ≤ n ∧ n ≤ 99) (k l : Nat) (hk : k < t.length) (hl : l < wd t) (g : Bool) (hg : safB t m n k l = g) (w : World) (hb : Below W.heap.size W w) :
    Calls Tryd.prog 74 #[v, u, .int .i64 k, .int .i64 l, .int .i64 n] w (Back (.bool g) W) := by
  have ht := mk_tab hm
  have HV := Lib.hid hv
  have HU := Lib.hid hu
  have HB := Lib.hid hb
  have h1 := ht.h1
  have h2 := ht.w1
  have hcb := ht.cell hk hl
  obtain ⟨b, o, c, rb, ro, rc, hvv, hallt⟩ := hv.all ht
  obtain ⟨b', o', c', rb', ro', rc', huu, hallm⟩ := hu.all (d := wd t) (by rw [mk_len hm]; exact h1) h2 (mk_parts.1 hm).2.2
  obtain ⟨hi, hhi⟩ : ∃ x, hiI t m k l = x := ⟨_, rfl⟩
  obtain ⟨lo, hlo⟩ : ∃ x, loI t m k l = x := ⟨_, rfl⟩
  obtain ⟨y, hy⟩ : ∃ y, cF t k l = y := ⟨_, rfl⟩
  obtain ⟨fl, hfl⟩ : ∃ y, hF m k l = y := ⟨_, rfl⟩
  have HHI := Lib.hid hhi
  have HLO := Lib.hid hlo
  rw [safB, hhi, hlo, hy, hfl] at hg
  have HG := Lib.hid hg
  rw [hy] at hcb
  rw [mk_len hm] at huu hallm
  have HCE := Lib.hid (show ∀ X, Below W.heap.size W X → (X.cell? ⟨b, o + k, none⟩ = some (.slice (some ⟨rb k, ro k, none⟩) (wd t) (rc k)) ∧ X.cell? ⟨rb k, ro k + l, none⟩ = some (.int .i64 y)) ∧ X.cell? ⟨b', o' + k, none⟩ = some (.slice (some ⟨rb' k, ro' k, none⟩) (wd t) (rc' k)) ∧ X.cell? ⟨rb' k, ro' k + l, none⟩ = some (.bool fl) from fun X h =>
    ⟨⟨(hallt X h).1 k hk, by rw [← hy]; exact (hallt X h).2 k l hk hl⟩, (hallm X h).1 k hk, by rw [← hfl]; exact (hallm X h).2 k l hk hl⟩)
  subst hvv huu
  obtain ⟨q, hq⟩ : ∃ q, t.length = q := ⟨_, rfl⟩
  obtain ⟨d, hd⟩ : ∃ d, wd t = d := ⟨_, rfl⟩
  rw [hq] at HV HU hk ⊢
  rw [hd] at HCE hl
  generalize rb k = x1 at HCE
  generalize ro k = x2 at HCE
  generalize rc k = x3 at HCE
  generalize rb' k = x4 at HCE
  generalize ro' k = x5 at HCE
  generalize rc' k = x6 at HCE
  have hki : (k : Int) < (q : Int) := by omega
  have hli : (l : Int) < (d : Int) := by omega
  obtain ⟨⟨e0, e1⟩, e2, e3⟩ := HCE.out w hb
  have hw1 : IntKind.i64.wrap (y + n) = y + n := by rw [IntKind.wrap_i64]; omega
  have hw2 : IntKind.i64.wrap (y - n) = y - n := by rw [IntKind.wrap_i64]; omega
  clear hv hu hb hm hg ht hallt hallm hq hd hhi hlo hy hfl h1 h2
  cases fl
  · have HE := Lib.hid (show g = false by rw [← HG.out]; rfl)
    go_enter Tryd.func74, Tryd.ntmps74
    go_wp2
    go_ret
    exact ⟨by rw [HE.out]; rfl, HB.out⟩
  go_enter Tryd.func74, Tryd.ntmps74
  go_wp2_with fail
  refine (sHigh_is W t _ HV.out m _ HU.out k l hi HHI.out w HB.out).mono ?_
  rintro e w1 ⟨rfl, b1⟩
  have HB1 := Lib.hid b1
  clear e0 e1 e2 e3 b1
  by_cases hge : y + n ≤ hi
  · go_wp2_with fail
    refine (sLow_is W t _ HV.out m _ HU.out k l lo HLO.out w1 HB1.out).mono ?_
    rintro e w2 ⟨rfl, b2⟩
    have HGE := Lib.hid hge
    have HB2 := Lib.hid b2
    clear b2 hge
    go_wp2
    all_goals
      go_ret
      refine ⟨?_, HB2.out⟩
      rw [← HG.out, decide_eq_true HGE.out]
      exact retb (by simp; omega)
  · have HE := Lib.hid (show g = false by rw [← HG.out]; simp [hge])
    go_wp2
    go_ret
    exact ⟨by rw [HE.out]; rfl, HB1.out⟩
end Go.Proofs.YtobgceebolmfcaaDoor
namespace Go.Proofs.YtobgceebolmfcaaDoor
open Go.RowKit
theorem np_row (d i j : Nat) : ∀ n, ∃ r, np d i (j + n) = np d i j ++ r
  | 0 => ⟨[], by simp⟩
  | n + 1 => by
    obtain ⟨r, hr⟩ := np_row d i j n
    exact ⟨r ++ [(i, j + n)], by rw [← Nat.add_assoc, np_step, hr, List.append_assoc]⟩
theorem np_rows (d i : Nat) : ∀ n, ∃ r, np d (i + n) 0 = np d i 0 ++ r
  | 0 => ⟨[], by simp⟩
  | n + 1 => by
    obtain ⟨r, hr⟩ := np_rows d i n
    obtain ⟨r2, h2⟩ := np_row d (i + n) 0 d
    rw [Nat.zero_add, np_next] at h2
    exact ⟨r ++ r2, by rw [← Nat.add_assoc, h2, hr, List.append_assoc]⟩
theorem np_pre {q d i j : Nat} (hi : i < q) (hj : j < d) : ∃ r, np d q 0 = np d i j ++ (i, j) :: r := by
  obtain ⟨n, rfl⟩ : ∃ n, q = i + 1 + n := ⟨q - (i + 1), by omega⟩
  obtain ⟨m, rfl⟩ : ∃ m, d = j + 1 + m := ⟨d - (j + 1), by omega⟩
  obtain ⟨r, hr⟩ := np_rows (j + 1 + m) (i + 1) n
  obtain ⟨r2, h2⟩ := np_row (j + 1 + m) i (j + 1) m
  rw [np_next, np_step] at h2
  exact ⟨r2 ++ r, by rw [hr, h2]; simp⟩
theorem fst1_hit {u : Nat → Nat → Bool} {q d i j : Nat} (hi : i < q) (hj : j < d) (h : fst1 u (np d i j) = none) (hu : u i j = true) : fst1 u (np d q 0) = some (i, j) := by
  obtain ⟨r, hr⟩ := np_pre hi hj
  unfold fst1 at h ⊢
  rw [hr, List.find?_append, h]
  simp [hu]
theorem fst1_on {u : Nat → Nat → Bool} {d i j : Nat} (h : fst1 u (np d i j) = none) (hu : u i j = false) : fst1 u (np d i (j + 1)) = none := by
  rw [np_step, fst1_snoc, h]
  simp [hu]
/-- 1 or 0. -/
def iF (f : Nat → Nat → Bool) (k l : Nat) : Int := if f k l = true then 1 else 0
theorem iF_bd (f : Nat → Nat → Bool) (k l : Nat) : 0 ≤ iF f k l ∧ iF f k l ≤ 1 := by unfold iF; split <;> omega
theorem iF_row (f : Nat → Nat → Bool) (k n : Nat) : 0 ≤ sm n (iF f k) ∧ sm n (iF f k) ≤ n := by
  refine ⟨sm_pos fun l _ => (iF_bd f k l).1, ?_⟩
  have := sm_le_mul (n := n) (f := iF f k) (c := 1) fun l _ => (iF_bd f k l).2
  omega
theorem iF_all (f : Nat → Nat → Bool) (k n : Nat) : 0 ≤ sm k (fun a => sm n (iF f a)) ∧ sm k (fun a => sm n (iF f a)) ≤ k * n :=
  ⟨sm_pos fun a _ => (iF_row f a n).1, sm_le_mul fun a _ => (iF_row f a n).2⟩
set_option maxRecDepth 100000 in
set_option maxHeartbeats 4000000 in
theorem sNeed_is (W : World) (t : Tb) (v : Value) (hv : IsR W v t) (f : Mk) (u : Value) (hu : IsM W u f) (m : Mk) (u2 : Value) (hu2 : IsM W u2 m) (n : Int) (g : Int) (hg : needN t f m n = g) (w : World) (hb : Below W.heap.size W w) :
    Calls Tryd.prog 44 #[v, u, u2, .int .i64 n] w (Back (.int .i64 g) W) := by
  have HV := Lib.hid hv
  have HU := Lib.hid hu
  have HU2 := Lib.hid hu2
  have HB := Lib.hid hb
  have HG := Lib.hid hg
  obtain ⟨fk, hfk⟩ : ∃ fk, mkOk t f = fk := ⟨_, rfl⟩
  have HFK := Lib.hid hfk
  cases fk
  · have HE := Lib.hid (show g = -1 by rw [← hg]; exact needN_no (by rw [pOk3, hfk]; rfl))
    clear hv hu hu2 hb hg hfk
    go_enter Tryd.func44, Tryd.ntmps44
    go_wp2_with fail
    refine (sMask_is W t _ HV.out f _ HU.out false HFK.out w HB.out).mono ?_
    rintro e w1 ⟨rfl, b1⟩
    go_wp2
    go_ret
    exact ⟨by rw [HE.out]; rfl, b1⟩
  obtain ⟨mk, hmk⟩ : ∃ mk, mkOk t m = mk := ⟨_, rfl⟩
  have HMK := Lib.hid hmk
  cases mk
  · have HE := Lib.hid (show g = -1 by rw [← hg]; exact needN_no (by rw [pOk3, hmk, hfk]; rfl))
    clear hv hu hu2 hb hg hfk hmk
    go_enter Tryd.func44, Tryd.ntmps44
    go_wp2_with fail
    refine (sMask_is W t _ HV.out f _ HU.out true HFK.out w HB.out).mono ?_
    rintro e w1 ⟨rfl, b1⟩
    have HB1 := Lib.hid b1
    clear b1
    go_wp2_with fail
    refine (sMask_is W t _ HV.out m _ HU2.out false HMK.out w1 HB1.out).mono ?_
    rintro e w2 ⟨rfl, b2⟩
    go_wp2
    go_ret
    exact ⟨by rw [HE.out]; rfl, b2⟩
  obtain ⟨nk, hnk⟩ : ∃ nk, in3 n 0 99 = nk := ⟨_, rfl⟩
  have HNK := Lib.hid hnk
  cases nk
  · have HE := Lib.hid (show g = -1 by rw [← hg]; exact needN_no (by rw [pOk3, hmk, hfk, hnk]; rfl))
    clear hv hu hu2 hb hg hfk hmk hnk
    go_enter Tryd.func44, Tryd.ntmps44
    go_wp2_with fail
    refine (sMask_is W t _ HV.out f _ HU.out true HFK.out w HB.out).mono ?_
    rintro e w1 ⟨rfl, b1⟩
    have HB1 := Lib.hid b1
    clear b1
    go_wp2_with fail
    refine (sMask_is W t _ HV.out m _ HU2.out true HMK.out w1 HB1.out).mono ?_
    rintro e w2 ⟨rfl, b2⟩
    have HB2 := Lib.hid b2
    clear b2
    go_wp2_with fail
    refine (l6In_any n 0 99 w2).mono ?_
    rintro e w3 ⟨rfl, rfl⟩
    rw [HNK.out]
    go_wp2
    go_ret
    exact ⟨by rw [HE.out]; rfl, HB2.out⟩
  have hn9 : 0 ≤ n ∧ n ≤ 99 := by simp only [in3, Bool.and_eq_true, decide_eq_true_eq] at hnk; exact hnk
  have ht := mk_tab hfk
  rw [needN_yes (pOk3_iff.2 ⟨hfk, hmk, hn9.1, hn9.2⟩)] at hg
  obtain ⟨b, o, c, rb, ro, rc, hvv, hallt⟩ := hv.all ht
  obtain ⟨b', o', c', rb', ro', rc', huu, hallm⟩ := hu.all (d := wd t) (by rw [mk_len hfk]; exact ht.h1) ht.w1 (mk_parts.1 hfk).2.2
  rw [mk_len hfk] at huu hallm
  have h14 := ht.h4
  have h11 := ht.h1
  have hd4 := ht.w4
  have hd1 := ht.w1
  obtain ⟨q, hq⟩ : ∃ q, t.length = q := ⟨_, rfl⟩
  obtain ⟨d, hd⟩ : ∃ d, wd t = d := ⟨_, rfl⟩
  have HQ := Lib.hid hq
  have HD := Lib.hid hd
  have HHM := Lib.hid (show HFK.out = HFK.out from rfl)
  rw [hq, hd] at hg hallt hallm
  rw [hd] at hd4 hd1
  rw [hq] at h14 h11 hvv huu
  have HGG := Lib.hid (show sm q (fun a => sm d (iF (unF t f m n) a)) = g from hg)
  have HT0 := Lib.hid (show ∀ X, Below W.heap.size W X → X.cell? ⟨b, o, none⟩ = some (.slice (some ⟨rb 0, ro 0, none⟩) d (rc 0)) from fun X h => (hallt X h).1 0 h11)
  have HMC := Lib.hid hallm
  subst hvv huu
  generalize rb 0 = x1 at HT0
  generalize ro 0 = x2 at HT0
  generalize rc 0 = x3 at HT0
  have hq0 : (0 : Int) < (q : Int) := by omega
  have hqn : 0 < q := by omega
  clear hu hv hu2 hb hmk hfk hnk hg ht hallt hallm hq hd HHM
  go_enter Tryd.func44, Tryd.ntmps44
  go_wp2_with fail
  refine (sMask_is W t _ HV.out f _ HU.out true HFK.out w HB.out).mono ?_
  rintro e w1 ⟨rfl, b1⟩
  have HB1 := Lib.hid b1
  clear b1
  go_wp2_with fail
  refine (sMask_is W t _ HV.out m _ HU2.out true HMK.out w1 HB1.out).mono ?_
  rintro e w2 ⟨rfl, b2⟩
  have HB2 := Lib.hid b2
  clear b2
  go_wp2_with fail
  refine (l6In_any n 0 99 w2).mono ?_
  rintro e w3 ⟨rfl, rfl⟩
  rw [HNK.out]
  go_wp2
  go_loopw [9, 10] (fun s i wr => ∃ k : Nat, k ≤ q ∧ i = .int .i64 k ∧ s = .int .i64 (sm k fun a => sm d (iF (unF t f m n) a)) ∧ Below W.heap.size W wr) (fun _ i _ => q - (intOf i).toNat)
  case atStart => exact ⟨0, Nat.zero_le _, rfl, rfl, HB2.out⟩
  case round =>
    obtain ⟨k, hk, rfl, rfl, hbr⟩ := hrel
    have HBR := Lib.hid hbr
    by_cases hlt : k < q
    · have hki : (k : Int) < (q : Int) := by omega
      have hkd : sm (k + 1) (fun a => sm d (iF (unF t f m n) a)) = sm k (fun a => sm d (iF (unF t f m n) a)) + sm d (iF (unF t f m n) k) := rfl
      have hb1 := iF_all (unF t f m n) k d
      have hkd2 : ((k : Nat) : Int) * (d : Int) ≤ 16 := by
        have h : k * d ≤ 4 * 4 := Nat.mul_le_mul (by omega) hd4
        have e : (k : Int) * (d : Int) = ((k * d : Nat) : Int) := by simp
        rw [e]; omega
      obtain ⟨s, hs⟩ : ∃ s, (sm k fun a => sm d (iF (unF t f m n) a)) = s := ⟨_, rfl⟩
      rw [hs] at hb1 hkd ⊢
      have HKD := Lib.hid hkd
      have hsb : 0 ≤ s ∧ s ≤ 16 := by omega
      clear hbr hkd hs hb1 hkd2
      go_wp2
      go_loopw [9, 11] (fun s' j wr' => ∃ l : Nat, l ≤ d ∧ j = .int .i64 l ∧ s' = .int .i64 (s + sm l (iF (unF t f m n) k)) ∧ Below W.heap.size W wr') (fun _ j _ => d - (intOf j).toNat)
      case atStart => exact ⟨0, Nat.zero_le _, rfl, by simp [sm], HBR.out⟩
      case round =>
        clear HBR
        obtain ⟨l, hl, rfl, rfl, hbr⟩ := hrel
        have HBR := Lib.hid hbr
        have e0 := HT0.out wr hbr
        have hrow := iF_row (unF t f m n) k l
        have hnext : sm (l + 1) (iF (unF t f m n) k) = sm l (iF (unF t f m n) k) + iF (unF t f m n) k l := rfl
        obtain ⟨r, hr⟩ : ∃ r, sm l (iF (unF t f m n) k) = r := ⟨_, rfl⟩
        rw [hr] at hrow hnext ⊢
        by_cases hlt2 : l < d
        · have hli : (l : Int) < (d : Int) := by omega
          have e1 := (HMC.out wr hbr).1 k hlt
          have e2 := (HMC.out wr hbr).2 k l hlt hlt2
          have HL := Lib.hid hlt2
          obtain ⟨fl, hfl⟩ : ∃ fl, hF f k l = fl := ⟨_, rfl⟩
          rw [hfl] at e2
          generalize rb' k = y1 at e1 e2
          generalize ro' k = y2 at e1 e2
          generalize rc' k = y3 at e1
          obtain ⟨sf, hsf⟩ : ∃ sf, safB t m n k l = sf := ⟨_, rfl⟩
          have HSF := Lib.hid hsf
          have hval : iF (unF t f m n) k l = if (fl && !sf) = true then 1 else 0 := by unfold iF unF; rw [hfl, hsf]
          rw [hval] at hnext
          have HNX := Lib.hid hnext
          clear hbr hr hfl hsf hval hnext
          cases fl
          · go_wp2
            go_roundw
            case rel => exact ⟨l + 1, by omega, by go_num, by rw [HNX.out]; simp, HBR.out⟩
            case measure => simp [intOf]; omega
          · go_wp2_with fail
            refine (sSafe1_is W t _ HV.out m _ HU2.out HMK.out n hn9 k l (by rw [HQ.out]; exact hlt) (by rw [HD.out]; exact HL.out) sf HSF.out wr HBR.out).mono ?_
            rintro e w5 ⟨rfl, b5⟩
            have HB5 := Lib.hid b5
            clear e0 e1 e2 b5
            cases sf
            · have hwr : IntKind.i64.wrap (s + r + 1) = s + r + 1 := by rw [IntKind.wrap_i64]; omega
              go_wp2
              go_roundw
              case rel => exact ⟨l + 1, by omega, by go_num, by rw [HNX.out]; simp [Int.add_assoc], HB5.out⟩
              case measure => simp [intOf]; omega
            · go_wp2
              go_roundw
              case rel => exact ⟨l + 1, by omega, by go_num, by rw [HNX.out]; simp, HB5.out⟩
              case measure => simp [intOf]; omega
        · obtain rfl : l = d := by omega
          have hli : ¬ (l : Int) < (l : Int) := by omega
          have HR := Lib.hid hr
          clear hbr hr hnext hrow
          go_wp2
          go_roundw
          case rel => exact ⟨k + 1, by omega, by go_num, by rw [HKD.out, HR.out], HBR.out⟩
          case measure => simp [intOf]; omega
    · obtain rfl : k = q := by omega
      have hki : ¬ (k : Int) < (k : Int) := by omega
      clear hbr
      rw [HGG.out]
      go_wp2
      go_ret
      exact ⟨rfl, HBR.out⟩
set_option maxHeartbeats 1000000 in
theorem sOk2_is (W : World) (t : Tb) (v : Value) (hv : IsR W v t) (f : Mk) (u : Value) (hu : IsM W u f) (m : Mk) (u2 : Value) (hu2 : IsM W u2 m) (n : Int) (g : Bool) (hg : decide (needN t f m n = 0) = g) (w : World) (hb : Below W.heap.size W w) :
    Calls Tryd.prog 51 #[v, u, u2, .int .i64 n] w (Back (.bool g) W) := by
  obtain ⟨x, hx⟩ : ∃ x, needN t f m n = x := ⟨_, rfl⟩
  have HS := Lib.hid (sNeed_is W t v hv f u hu m u2 hu2 n x hx w hb)
  rw [hx] at hg
  have HG := Lib.hid hg
  clear hv hu hu2 hb hg hx
  go_enter Tryd.func51, Tryd.ntmps51
  go_wp2_with fail
  refine HS.out.mono ?_
  rintro e w1 ⟨rfl, b1⟩
  go_wp2
  go_ret
  exact ⟨retb (by rw [← HG.out, Bool.eq_iff_iff]; simp), b1⟩
end Go.Proofs.YtobgceebolmfcaaDoor
namespace Go.Proofs.YtobgceebolmfcaaDoor
open Go.RowKit
set_option maxHeartbeats 2000000 in
theorem sMaskCp_is (W : World) (t : Mk) (v : Value) (hv : IsM W v t) (hl : t.length ≤ 1000) (hr6 : ∀ r ∈ t, r.length ≤ 100000) (w : World) (hb : Below W.heap.size W w) :
    Calls Tryd.prog 47 #[v] w (OutM1 t w) := by
  have hv0 := hv.below hb
  clear hv hb
  obtain ⟨A, c, rfl, a1, a2, a3⟩ := hv0
  obtain ⟨q, hq⟩ : ∃ q, q = t.length := ⟨_, rfl⟩
  have HQ := Lib.hid hq
  have HR := Lib.hid a3
  have H6 := Lib.hid hr6
  rw [← hq]
  have hq6 : q ≤ 1000 := by omega
  clear a1 a2 a3 hq hr6 hl
  go_enter Tryd.func47, Tryd.ntmps47
  go_wp2
  go_loopw [3, 4] (fun v i wr => ∃ k : Nat, k ≤ q ∧ i = .int .i64 k ∧ MineB wr w.heap.size wr.heap.size v (t.take k) ∧ Below w.heap.size w wr) (fun _ i _ => q - (intOf i).toNat)
  case atStart => exact ⟨0, Nat.zero_le _, rfl, (mineB_new (Nat.le_refl _)).up, (Below.refl _ _).alloc (Nat.le_refl _) _⟩
  case round =>
    obtain ⟨k, hk, rfl, ho, hb⟩ := hrel
    have HOL := Lib.hid ho
    have HB5 := Lib.hid hb
    have hz5 := hb.size
    clear ho hb
    by_cases hlt : k < q
    · have hki : (k : Int) < (q : Int) := by omega
      have hkt : k < t.length := by rw [← HQ.out]; exact hlt
      have HT := Lib.hid (take_snocK t k hkt)
      obtain ⟨b1, o1, Ai, ci, hA, hb1, c0, g1, g2, r0⟩ := (HR.out.below HB5.out (Nat.le_refl _)).at_ k hkt
      subst hA
      have HR0 := Lib.hid r0
      have hx6 : (t.getD k []).length ≤ 100000 := H6.out _ (by rw [getD_of _ _ hkt]; exact List.getElem_mem _)
      obtain ⟨row, hrow⟩ : ∃ row, t.getD k [] = row := ⟨_, rfl⟩
      rw [hrow] at HT HR0 c0 hx6
      have HX6 := Lib.hid hx6
      have hb1w : b1 < wr.heap.size := by omega
      have HL4 := Lib.hid (show (t.take k).length + 1 ≤ 1000000 by rw [List.length_take]; omega)
      clear hrow g1 g2 r0 hx6 hkt
      go_wp2_with (first
        | (at_builtin
           refine app1 one_BS rfl (.tmp 13) (.tmp 17) rfl wr.heap.size _ [] rfl (own1_new (Nat.le_refl _)) w.heap.size Ai row.length ci (bcells row) (bcells_len row).symm rfl ((HR0.out.below ((Below.refl wr.heap.size wr).alloc (Nat.le_refl _) _) (by omega))) (bcells_one row) (by rw [bcells_len]; have := HX6.out; simp; omega) (by simp) ?_
           intro v6 w6 ho6 hg6 _
           rw [List.nil_append] at ho6
           obtain ⟨A6, c6, hv6, _, _, _, _⟩ := ho6.form
           rw [bcells_len] at hv6
           subst hv6
           have HB6 := Lib.hid (below_own1 (W := wr) ((Below.refl _ _).alloc (Nat.le_refl _) _) (own1_new (Nat.le_refl _)) hg6)
           have HO6 := Lib.hid ho6
           clear ho6 hg6
           have hz6 := HB6.out.size
           have HRW := Lib.hid ((HO6.out.alloc (.cells #[.slice A6 row.length c6] TBS)).less hz5)
           have HFR := Lib.hid (show ∀ k, (Value.slice A6 row.length c6).ownBlock = some k → some k ≠ u3.ownBlock ∧ (wr.heap.size ≤ k ∨ k < w.heap.size) from fun k e => by
             have h1 := (HO6.out.ob k e).1
             exact ⟨fun e2 => by have := (HOL.out.ob k e2.symm).2; omega, .inl h1⟩)
           have HOL2 := Lib.hid (HOL.out.below HB6.out)
           have HB7 := Lib.hid (HB5.out.trans (HB6.out.mono hz5))
           clear HOL HB5 HB6)
        | (at_builtin
           refine appMineB rfl (.tmp 12) (.tmp 19) rfl w.heap.size wr.heap.size u3 (t.take k) rfl (HOL2.out.alloc _) (w6.heap.size + 1) (some ⟨w6.heap.size, 0, none⟩) 1 (.slice A6 row.length c6) row rfl (row_lit w6 #[.slice A6 row.length c6] TBS) w.heap.size (Nat.le_refl _) HRW.out HFR.out HL4.out (by simp; omega) ?_
           intro v7 w7 ho7 hg7 _
           have HB8 := Lib.hid (below_ownLB (HB7.out.alloc HB7.out.size _) (HOL2.out.own.alloc _) hg7)
           have HO7 := Lib.hid ho7
           clear ho7 hg7))
      go_roundw
      case rel => exact ⟨k + 1, by omega, by go_num, by rw [HT.out]; exact HO7.out, HB8.out⟩
      case measure => simp [intOf]; omega
    · have hki : ¬ (k : Int) < (q : Int) := by omega
      have hkq : t.take k = t := List.take_of_length_le (by rw [← HQ.out]; omega)
      rw [hkq] at HOL
      clear hkq
      go_wp2
      go_ret
      exact ⟨_, rfl, HOL.out, HB5.out⟩
set_option maxRecDepth 100000 in
set_option maxHeartbeats 4000000 in
theorem sFirst_is (W : World) (t : Tb) (v : Value) (hv : IsR W v t) (f : Mk) (u : Value) (hu : IsM W u f) (m : Mk) (u2 : Value) (hu2 : IsM W u2 m) (n : Int) (hn9 : 0 ≤ n ∧ n ≤ 99) (hfk : mkOk t f = true) (hmk : mkOk t m = true) (x : Nat × Nat) (hx : fst1 (unF t f m n) (np (wd t) t.length 0) = some x) (w : World) (hb : Below W.heap.size W w) :
    Calls Tryd.prog 45 #[v, u, u2, .int .i64 n] w (Back (.tuple #[.int .i64 x.1, .int .i64 x.2]) W) := by
  have HV := Lib.hid hv
  have HU := Lib.hid hu
  have HU2 := Lib.hid hu2
  have HB := Lib.hid hb
  have HMK := Lib.hid hmk
  have ht := mk_tab hfk
  obtain ⟨b, o, c, rb, ro, rc, hvv, hallt⟩ := hv.all ht
  obtain ⟨b', o', c', rb', ro', rc', huu, hallm⟩ := hu.all (d := wd t) (by rw [mk_len hfk]; exact ht.h1) ht.w1 (mk_parts.1 hfk).2.2
  rw [mk_len hfk] at huu hallm
  have h14 := ht.h4
  have h11 := ht.h1
  have hd4 := ht.w4
  have hd1 := ht.w1
  obtain ⟨q, hq⟩ : ∃ q, t.length = q := ⟨_, rfl⟩
  obtain ⟨d, hd⟩ : ∃ d, wd t = d := ⟨_, rfl⟩
  have HQ := Lib.hid hq
  have HD := Lib.hid hd
  rw [hq, hd] at hallt hallm hx
  have HX := Lib.hid hx
  rw [hd] at hd4 hd1
  rw [hq] at h14 h11 hvv huu
  have HT0 := Lib.hid (show ∀ X, Below W.heap.size W X → X.cell? ⟨b, o, none⟩ = some (.slice (some ⟨rb 0, ro 0, none⟩) d (rc 0)) from fun X h => (hallt X h).1 0 h11)
  have HMC := Lib.hid hallm
  subst hvv huu
  generalize rb 0 = x1 at HT0
  generalize ro 0 = x2 at HT0
  generalize rc 0 = x3 at HT0
  have hq0 : (0 : Int) < (q : Int) := by omega
  have hqn : 0 < q := by omega
  clear hu hv hu2 hb hmk hfk ht hallt hallm hq hd hx
  go_enter Tryd.func45, Tryd.ntmps45
  go_wp2
  go_loopw [10] (fun i wr => ∃ k : Nat, k ≤ q ∧ i = .int .i64 k ∧ fst1 (unF t f m n) (np d k 0) = none ∧ Below W.heap.size W wr) (fun i _ => q - (intOf i).toNat)
  case atStart => exact ⟨0, Nat.zero_le _, rfl, rfl, HB.out⟩
  case round =>
    obtain ⟨k, hk, rfl, hno, hbr⟩ := hrel
    have HNO := Lib.hid hno
    have HBR := Lib.hid hbr
    by_cases hlt : k < q
    · have hki : (k : Int) < (q : Int) := by omega
      clear hbr hno
      go_wp2
      go_loopw [11] (fun j wr' => ∃ l : Nat, l ≤ d ∧ j = .int .i64 l ∧ fst1 (unF t f m n) (np d k l) = none ∧ Below W.heap.size W wr') (fun j _ => d - (intOf j).toNat)
      case atStart => exact ⟨0, Nat.zero_le _, rfl, HNO.out, HBR.out⟩
      case round =>
        clear HBR HNO
        obtain ⟨l, hl, rfl, hno, hbr⟩ := hrel
        have HNO := Lib.hid hno
        have HBR := Lib.hid hbr
        have e0 := HT0.out wr hbr
        by_cases hlt2 : l < d
        · have hli : (l : Int) < (d : Int) := by omega
          have e1 := (HMC.out wr hbr).1 k hlt
          have e2 := (HMC.out wr hbr).2 k l hlt hlt2
          have HL := Lib.hid hlt2
          have HK := Lib.hid hlt
          obtain ⟨fl, hfl⟩ : ∃ fl, hF f k l = fl := ⟨_, rfl⟩
          rw [hfl] at e2
          generalize rb' k = y1 at e1 e2
          generalize ro' k = y2 at e1 e2
          generalize rc' k = y3 at e1
          obtain ⟨sf, hsf⟩ : ∃ sf, safB t m n k l = sf := ⟨_, rfl⟩
          have HSF := Lib.hid hsf
          have HUN := Lib.hid (show unF t f m n k l = (fl && !sf) by unfold unF; rw [hfl, hsf])
          clear hbr hfl hsf hno
          cases fl
          · have HN := Lib.hid (fst1_on HNO.out HUN.out)
            go_wp2
            go_roundw
            case rel => exact ⟨l + 1, by omega, by go_num, HN.out, HBR.out⟩
            case measure => simp [intOf]; omega
          · go_wp2_with fail
            refine (sSafe1_is W t _ HV.out m _ HU2.out HMK.out n hn9 k l (by rw [HQ.out]; exact HK.out) (by rw [HD.out]; exact HL.out) sf HSF.out wr HBR.out).mono ?_
            rintro e w5 ⟨rfl, b5⟩
            have HB5 := Lib.hid b5
            clear e0 e1 e2 b5
            cases sf
            · have HE := Lib.hid (Option.some.inj (HX.out.symm.trans (fst1_hit HK.out HL.out HNO.out HUN.out)))
              go_wp2
              refine bodyPost_ret (results_tmp2 rfl _ _ _) rfl ?_
              rw [HE.out]
              exact ⟨rfl, HB5.out⟩
            · have HN := Lib.hid (fst1_on HNO.out HUN.out)
              go_wp2
              go_roundw
              case rel => exact ⟨l + 1, by omega, by go_num, HN.out, HB5.out⟩
              case measure => simp [intOf]; omega
        · obtain rfl : l = d := by omega
          have hli : ¬ (l : Int) < (l : Int) := by omega
          have HN := Lib.hid (show fst1 (unF t f m n) (np l (k + 1) 0) = none by rw [← np_next]; exact HNO.out)
          clear hbr hno
          go_wp2
          go_roundw
          case rel => exact ⟨k + 1, by omega, by go_num, HN.out, HBR.out⟩
          case measure => simp [intOf]; omega
    · obtain rfl : k = q := by omega
      have h1 := HX.out
      rw [HNO.out] at h1
      cases h1
/-- The rows and the columns of a rectangle's four cells. -/
def pR (i k a : Nat) : Nat := if a < 2 then i else k
def pC (j l a : Nat) : Nat := if a % 2 = 0 then j else l
def nN (m : Mk) (a b : Nat) : Int := if hF m a b = true then 0 else 1
def nMany (m : Mk) (i j k l : Nat) : Int := sm 4 fun a => nN m (pR i k a) (pC j l a)
theorem rc_sum (t : Tb) (m : Mk) (i j k l : Nat) : (sm 4 fun a => nC t m (pR i k a) (pC j l a)) = rc t m i j (k, l) := by simp only [sm, rc, pR, pC]; simp
theorem nMany_new (m : Mk) (i j k l : Nat) : isNew m i j (k, l) = decide (0 < nMany m i j k l) := by
  simp only [isNew, nMany, nN, sm, pR, pC]
  simp only [show (0 : Nat) < 2 by decide, show (1 : Nat) < 2 by decide, show ¬ (2 : Nat) < 2 by decide, show ¬ (3 : Nat) < 2 by decide, if_true, if_false, Nat.reduceMod, show ¬ (1 : Nat) = 0 by decide]
  generalize hF m i j = x1
  generalize hF m i l = x2
  generalize hF m k j = x3
  generalize hF m k l = x4
  revert x1 x2 x3 x4; decide
set_option maxRecDepth 100000 in
set_option maxHeartbeats 4000000 in
theorem sNew_is (W : World) (t : Tb) (v : Value) (hv : IsR W v t) (m : Mk) (u : Value) (hu : IsM W u m) (hm : mkOk t m = true) (i j k l : Nat) (hi : i < t.length) (hj : j < wd t) (hk : k < t.length) (hl : l < wd t) (g : Int) (hg : rc t m i j (k, l) = g) (h : Int) (hh : nMany m i j k l = h) (w : World) (hb : Below W.heap.size W w) :
    Calls Tryd.prog 46 #[v, u, .int .i64 i, .int .i64 j, .int .i64 k, .int .i64 l] w (Back (.tuple #[.int .i64 g, .int .i64 h]) W) := by
  have HB := Lib.hid hb
  have ht := mk_tab hm
  obtain ⟨b, o, c, rb, ro, rc', hvv, hallt⟩ := hv.all ht
  obtain ⟨b', o', c', rb', ro', rc2, huu, hallm⟩ := hu.all (d := wd t) (by rw [mk_len hm]; exact ht.h1) ht.w1 (mk_parts.1 hm).2.2
  rw [mk_len hm] at huu hallm
  have hq4 := ht.h4
  have hd4 := ht.w4
  have HCB := Lib.hid (show ∀ a c, a < t.length → c < wd t → 0 ≤ nC t m a c ∧ nC t m a c ≤ 99 from fun a c ha hc => by have := ht.cell ha hc; unfold nC; split <;> omega)
  obtain ⟨q, hq⟩ : ∃ q, t.length = q := ⟨_, rfl⟩
  obtain ⟨d, hd⟩ : ∃ d, wd t = d := ⟨_, rfl⟩
  rw [← rc_sum] at hg
  have HG := Lib.hid hg
  have HH := Lib.hid hh
  rw [hq, hd] at hallt hallm HCB
  rw [hq] at hvv huu hi hk hq4
  rw [hd] at hj hl hd4
  have HPR := Lib.hid (show ∀ a, pR i k a < q from fun a => by unfold pR; split <;> omega)
  have HPC := Lib.hid (show ∀ a, pC j l a < d from fun a => by unfold pC; split <;> omega)
  have HTC := Lib.hid hallt
  have HMC := Lib.hid hallm
  subst hvv huu
  obtain ⟨W2, hW2, b2, hz2, k0, k1⟩ := two_blk w #[.int .i64 i, .int .i64 i, .int .i64 k, .int .i64 k] #[.int .i64 j, .int .i64 l, .int .i64 j, .int .i64 l] TN TN
  have HB2 := Lib.hid b2
  have HW2 := Lib.hid hW2.symm
  have HRC := Lib.hid (show ∀ X a, Below W2.heap.size W2 X → a < 4 → X.cell? ⟨w.heap.size, a, none⟩ = some (.int .i64 (pR i k a : Nat)) ∧ X.cell? ⟨w.heap.size + 1, a, none⟩ = some (.int .i64 (pC j l a : Nat)) from fun X a hX ha => by
    have h0 := (hX.block _ (by omega)).trans k0
    have h1 := (hX.block _ (by omega)).trans k1
    rcases (show a = 0 ∨ a = 1 ∨ a = 2 ∨ a = 3 by omega) with rfl | rfl | rfl | rfl <;> exact ⟨by simp [World.cell?, h0, pR], by simp [World.cell?, h1, pC]⟩)
  clear hv hu hb hm ht hq hd hg hh hallt hallm hW2 b2 k0 k1
  go_enter Tryd.func46, Tryd.ntmps46
  go_wp2
  rw [HW2.out]
  go_loopw [14, 15, 18] (fun s mm ii wr => ∃ a : Nat, a ≤ 4 ∧ ii = .int .i64 a ∧ s = .int .i64 (sm a fun a => nC t m (pR i k a) (pC j l a)) ∧ mm = .int .i64 (sm a fun a => nN m (pR i k a) (pC j l a)) ∧ Below W2.heap.size W2 wr) (fun _ _ ii _ => 4 - (intOf ii).toNat)
  case atStart => exact ⟨0, Nat.zero_le _, rfl, rfl, rfl, Below.refl _ _⟩
  case round =>
    obtain ⟨a, ha, rfl, rfl, rfl, hbr⟩ := hrel
    have HBR := Lib.hid hbr
    by_cases hlt : a < 4
    · have hai : (a : Int) < 4 := by omega
      have hbW : Below W.heap.size W wr := HB.out.trans ((HB2.out.trans (hbr.mono HB2.out.size)).mono HB.out.size)
      have e1 := (HMC.out wr hbW).1 _ (HPR.out a)
      have e2 := (HMC.out wr hbW).2 _ _ (HPR.out a) (HPC.out a)
      have e3 := (HTC.out wr hbW).1 _ (HPR.out a)
      have e4 := (HTC.out wr hbW).2 _ _ (HPR.out a) (HPC.out a)
      obtain ⟨e5, e6⟩ := HRC.out wr a hbr hlt
      have hpr := HPR.out a
      have hpc := HPC.out a
      have hcb := HCB.out _ _ hpr hpc
      have hs1 : (sm (a + 1) fun a => nC t m (pR i k a) (pC j l a)) = (sm a fun a => nC t m (pR i k a) (pC j l a)) + nC t m (pR i k a) (pC j l a) := rfl
      have hs2 : (sm (a + 1) fun a => nN m (pR i k a) (pC j l a)) = (sm a fun a => nN m (pR i k a) (pC j l a)) + nN m (pR i k a) (pC j l a) := rfl
      have hs3 : 0 ≤ (sm a fun a => nC t m (pR i k a) (pC j l a)) ∧ (sm a fun a => nC t m (pR i k a) (pC j l a)) ≤ a * 99 := ⟨sm_pos fun x _ => (HCB.out _ _ (HPR.out x) (HPC.out x)).1, sm_le_mul fun x _ => (HCB.out _ _ (HPR.out x) (HPC.out x)).2⟩
      have hs4 : 0 ≤ (sm a fun a => nN m (pR i k a) (pC j l a)) ∧ (sm a fun a => nN m (pR i k a) (pC j l a)) ≤ a * 1 := ⟨sm_pos fun x _ => by unfold nN; split <;> omega, sm_le_mul fun x _ => by unfold nN; split <;> omega⟩
      obtain ⟨s, hs⟩ : ∃ s, (sm a fun a => nC t m (pR i k a) (pC j l a)) = s := ⟨_, rfl⟩
      obtain ⟨s', hs'⟩ : ∃ s, (sm a fun a => nN m (pR i k a) (pC j l a)) = s := ⟨_, rfl⟩
      rw [hs] at hs1 hs3 ⊢
      rw [hs'] at hs2 hs4 ⊢
      generalize pR i k a = pr at e1 e2 e3 e4 e5 hpr hcb hs1 hs2
      generalize pC j l a = pc at e2 e4 e6 hpc hcb hs1 hs2
      obtain ⟨fl, hfl⟩ : ∃ fl, hF m pr pc = fl := ⟨_, rfl⟩
      have hn1 : nC t m pr pc = if fl = true then 0 else cF t pr pc := by rw [nC, hfl]
      have hn2 : nN m pr pc = if fl = true then 0 else 1 := by rw [nN, hfl]
      rw [hfl] at e2
      rw [hn1] at hcb hs1
      rw [hn2] at hs2
      obtain ⟨y, hy⟩ : ∃ y, cF t pr pc = y := ⟨_, rfl⟩
      rw [hy] at e4 hcb hs1
      have hpri : (pr : Int) < (q : Int) := by omega
      have hpci : (pc : Int) < (d : Int) := by omega
      generalize rb pr = y1 at e3 e4
      generalize ro pr = y2 at e3 e4
      generalize rc' pr = y3 at e3
      generalize rb' pr = y4 at e1 e2
      generalize ro' pr = y5 at e1 e2
      generalize rc2 pr = y6 at e1
      have hA4 : a * 99 ≤ 400 := by omega
      have hs5 : s ≤ 400 := by omega
      have hs6 : s' ≤ 4 := by omega
      have HS1 := Lib.hid hs1
      have HS2 := Lib.hid hs2
      clear hbr hbW hs hs' hfl hn1 hn2 hy hs1 hs2
      cases fl
      · have hwr : IntKind.i64.wrap (s + y) = s + y := by rw [IntKind.wrap_i64]; simp at hcb; omega
        have hwr2 : IntKind.i64.wrap (s' + 1) = s' + 1 := by rw [IntKind.wrap_i64]; omega
        clear hcb
        go_wp2
        go_quiet (fail)
        go_wp2
        go_quiet (fail)
        clear e1 e2 e3 e4 e5 e6
        go_wp2
        go_roundw
        case rel => exact ⟨a + 1, by omega, by go_num, by rw [HS1.out]; simp, by rw [HS2.out]; simp, below_draws HBR.out _⟩
        case measure => simp [intOf]; omega
      · go_wp2
        go_quiet (fail)
        clear e1 e2 e3 e4 e5 e6
        go_wp2
        go_roundw
        case rel => exact ⟨a + 1, by omega, by go_num, by rw [HS1.out]; simp, by rw [HS2.out]; simp, below_draws HBR.out _⟩
        case measure => simp [intOf]; omega
    · obtain rfl : a = 4 := by omega
      have HE := Lib.hid HH.out
      unfold nMany at HE
      rw [HG.out, HE.out]
      clear hbr
      go_wp2
      refine bodyPost_ret (results_tmp2 rfl _ _ _) rfl ?_
      exact ⟨rfl, HB.out.trans ((HB2.out.trans (HBR.out.mono HB2.out.size)).mono HB.out.size)⟩
end Go.Proofs.YtobgceebolmfcaaDoor
namespace Go.Proofs.YtobgceebolmfcaaDoor
open Go.RowKit
def rO (b : Option (Nat × Nat)) : Int := match b with | none => -1 | some x => x.1
def cO (b : Option (Nat × Nat)) : Int := match b with | none => -1 | some x => x.2
def bO (t : Tb) (m : Mk) (i j : Nat) (b : Option (Nat × Nat)) : Int := match b with | none => 0 | some x => rc t m i j x
theorem put_mask {t : Tb} {m : Mk} {w : World} {B T k l : Nat} {v : Value} (h : MineB w B T v m) (hm : mkOk t m = true) (hk : k < t.length) (hl : l < wd t) :
    ∃ g c gi ci x, v = .slice (some ⟨g, 0, none⟩) t.length c ∧ w.cell? ⟨g, k, none⟩ = some (.slice (some ⟨gi, 0, none⟩) (wd t) ci) ∧ (B ≤ gi ∧ gi < T) ∧ w.cell? ⟨gi, l, none⟩ = some (.bool x) ∧ w.frozen? ⟨gi, l, none⟩ = false ∧
      MineB (w.setCell ⟨gi, l, none⟩ (.bool true)) B T v (mset m k l) := by
  obtain ⟨g, c, gi, ci, hv, h1, _, h2, _, h3, h4, h5⟩ := h.cell (i := k) (j := l) (by rw [mk_len hm]; exact hk) (by rw [mk_row hm hk]; exact hl)
  rw [mk_len hm] at hv
  rw [mk_row hm hk] at h1
  exact ⟨g, c, gi, ci, _, hv, h1, h2, h3, h4, h5 true⟩
set_option maxRecDepth 100000 in
set_option maxHeartbeats 8000000 in
theorem sStep_is (W : World) (t : Tb) (v : Value) (hv : IsR W v t) (f : Mk) (u : Value) (hu : IsM W u f) (m : Mk) (u2 : Value) (hu2 : IsM W u2 m) (n : Int) (r : Option Mk) (hr : stepO t f m n = r) (w : World) (hb : Below W.heap.size W w) :
    Calls Tryd.prog 15 #[v, u, u2, .int .i64 n] w (OutMT (r.getD []) r.isSome w) := by
  have hvw := hv.below hb
  have huw := hu.below hb
  have hu2w := hu2.below hb
  have HV := Lib.hid hvw
  have HU := Lib.hid huw
  have HU2 := Lib.hid hu2w
  obtain ⟨x, hx⟩ : ∃ x, needN t f m n = x := ⟨_, rfl⟩
  have HX := Lib.hid hx
  clear hv hu hu2 hb
  by_cases hlow : x < 1
  · have HE := Lib.hid (show r = none by rw [← hr]; exact step_low (by rw [hx]; exact hlow))
    clear hvw huw hu2w hr hx
    go_enter Tryd.func15, Tryd.ntmps15
    go_wp2_with fail
    refine (sNeed_is w t _ HV.out f _ HU.out m _ HU2.out n x HX.out w (Below.refl _ _)).mono ?_
    rintro e w1 ⟨rfl, b1⟩
    have HN := Lib.hid (mineB_new (w := w1) b1.size)
    have HF := Lib.hid (b1.alloc b1.size (.cells #[] TBS))
    clear b1
    go_wp2
    refine bodyPost_ret (results_tmp2 rfl _ _ _) rfl ?_
    rw [HE.out]
    exact ⟨_, rfl, HN.out.up, HF.out⟩
  obtain ⟨y, hfst, hy1, hy2, _⟩ := need_fst (t := t) (f := f) (m := m) (n := n) (by omega)
  obtain ⟨i, j⟩ := y
  simp only at hy1 hy2
  have hok := needN_ok.1 (show 0 ≤ needN t f m n by omega)
  obtain ⟨hfk, hmk, hn0, hn9⟩ := pOk3_iff.1 hok
  have ht := mk_tab hmk
  have HMK := Lib.hid hmk
  have HFK := Lib.hid hfk
  have HFST := Lib.hid hfst
  have HYES := Lib.hid (fun y h => step_yes (t := t) (f := f) (m := m) (n := n) (x := (i, j)) (y := y) (by omega) hfst h)
  have HNOT := Lib.hid (fun h => step_not (t := t) (f := f) (m := m) (n := n) (x := (i, j)) (by omega) hfst h)
  rw [hr] at HYES HNOT
  obtain ⟨b, o, c, rb, ro, rc', hvv, hallt⟩ := hvw.all ht
  have h11 := ht.h1
  have h14 := ht.h4
  have hd4 := ht.w4
  obtain ⟨q, hq⟩ : ∃ q, t.length = q := ⟨_, rfl⟩
  obtain ⟨d, hd⟩ : ∃ d, wd t = d := ⟨_, rfl⟩
  have HQ := Lib.hid hq
  have HD := Lib.hid hd
  rw [hq, hd] at hallt HYES HNOT
  rw [hq] at hvv hy1 h11 h14
  rw [hd] at hy2 hd4
  simp only at HYES HNOT
  have HT0 := Lib.hid (show ∀ X, Below w.heap.size w X → X.cell? ⟨b, o, none⟩ = some (.slice (some ⟨rb 0, ro 0, none⟩) d (rc' 0)) from fun X h => (hallt X h).1 0 h11)
  subst hvv
  generalize rb 0 = x1 at HT0
  generalize ro 0 = x2 at HT0
  generalize rc' 0 = x3 at HT0
  have hq0 : (0 : Int) < (q : Int) := by omega
  have hqn : 0 < q := by omega
  have HIJ := Lib.hid (show i < q ∧ j < d from ⟨hy1, hy2⟩)
  clear hvw huw hu2w hr hx hok hfk hmk ht hfst hallt hq hd hy1 hy2
  go_enter Tryd.func15, Tryd.ntmps15
  go_wp2_with fail
  refine (sNeed_is w t _ HV.out f _ HU.out m _ HU2.out n x HX.out w (Below.refl _ _)).mono ?_
  rintro e w1 ⟨rfl, b1⟩
  have HB1 := Lib.hid b1
  clear b1
  go_wp2_with fail
  refine (sFirst_is w t _ HV.out f _ HU.out m _ HU2.out n ⟨hn0, hn9⟩ HFK.out HMK.out (i, j) HFST.out w1 HB1.out).mono ?_
  rintro e w2 ⟨rfl, b2⟩
  have HB2 := Lib.hid b2
  clear b2
  simp only
  go_wp2
  go_loopw [12, 13, 14, 15] (fun s12 s13 s14 s15 wr => ∃ k : Nat, k ≤ q ∧ s15 = .int .i64 k ∧ s12 = .int .i64 (rO (bst t m i j (np d k 0))) ∧ s13 = .int .i64 (cO (bst t m i j (np d k 0))) ∧ s14 = .int .i64 (bO t m i j (bst t m i j (np d k 0))) ∧ Below w.heap.size w wr) (fun _ _ _ s15 _ => q - (intOf s15).toNat)
  case atStart => exact ⟨0, Nat.zero_le _, rfl, rfl, rfl, rfl, HB2.out⟩
  case round =>
    obtain ⟨k, hk, rfl, rfl, rfl, rfl, hbr⟩ := hrel
    have HBR := Lib.hid hbr
    by_cases hlt : k < q
    · have hki : (k : Int) < (q : Int) := by omega
      obtain ⟨bb, hbb⟩ : ∃ bb, bst t m i j (np d k 0) = bb := ⟨_, rfl⟩
      rw [hbb]
      have HBB := Lib.hid hbb
      obtain ⟨z1, hz1⟩ : ∃ z, rO bb = z := ⟨_, rfl⟩
      obtain ⟨z2, hz2⟩ : ∃ z, cO bb = z := ⟨_, rfl⟩
      obtain ⟨z3, hz3⟩ : ∃ z, bO t m i j bb = z := ⟨_, rfl⟩
      rw [hz1, hz2, hz3]
      have HZ := Lib.hid (show rO bb = z1 ∧ cO bb = z2 ∧ bO t m i j bb = z3 from ⟨hz1, hz2, hz3⟩)
      clear hbr hbb hz1 hz2 hz3
      go_wp2
      go_loopw [12, 13, 14, 16] (fun s12 s13 s14 s16 wr' => ∃ l : Nat, l ≤ d ∧ s16 = .int .i64 l ∧ s12 = .int .i64 (rO (bst t m i j (np d k l))) ∧ s13 = .int .i64 (cO (bst t m i j (np d k l))) ∧ s14 = .int .i64 (bO t m i j (bst t m i j (np d k l))) ∧ Below w.heap.size w wr') (fun _ _ _ s16 _ => d - (intOf s16).toNat)
      case atStart => exact ⟨0, Nat.zero_le _, rfl, by rw [HBB.out, HZ.out.1], by rw [HBB.out, HZ.out.2.1], by rw [HBB.out, HZ.out.2.2], HBR.out⟩
      case round =>
        clear HBR HBB HZ
        obtain ⟨l, hl, rfl, rfl, rfl, rfl, hbr⟩ := hrel
        have HBR := Lib.hid hbr
        have e0 := HT0.out wr hbr
        by_cases hlt2 : l < d
        · have hli : (l : Int) < (d : Int) := by omega
          obtain ⟨g, hg⟩ : ∃ g, rc t m i j (k, l) = g := ⟨_, rfl⟩
          obtain ⟨h, hh⟩ : ∃ h, nMany m i j k l = h := ⟨_, rfl⟩
          have HG := Lib.hid hg
          have HS := Lib.hid (sNew_is w t _ HV.out m _ HU2.out HMK.out i j k l (by rw [HQ.out]; exact HIJ.out.1) (by rw [HD.out]; exact HIJ.out.2) (by rw [HQ.out]; exact hlt) (by rw [HD.out]; exact hlt2) g hg h hh wr hbr)
          have hnew := nMany_new m i j k l
          rw [hh] at hnew
          have HGOOD := Lib.hid (show goodR m i j (k, l) = (decide (k ≠ i) && decide (l ≠ j) && decide (0 < h)) by unfold goodR; rw [hnew])
          have HSTEP := Lib.hid (np_step d k l)
          obtain ⟨bb, hbb⟩ : ∃ bb, bst t m i j (np d k l) = bb := ⟨_, rfl⟩
          rw [hbb]
          have HBB := Lib.hid hbb
          clear hbr hg hh hnew hbb
          go_wp2_with fail
          refine HS.out.mono ?_
          rintro e w5 ⟨rfl, b5⟩
          have HB5 := Lib.hid b5
          clear e0 b5
          by_cases hki2 : k = i
          · have hc1 : ((k : Int) != (i : Int)) = false := by simp [hki2]
            have HN := Lib.hid (show bst t m i j (np d k (l + 1)) = bb by rw [HSTEP.out, bst_no (by rw [HGOOD.out]; simp [hki2])]; exact HBB.out)
            clear hki2
            go_wp2
            clear hc1
            go_roundw
            case rel => exact ⟨l + 1, by omega, by go_num, by rw [HN.out], by rw [HN.out], by rw [HN.out], HB5.out⟩
            case measure => simp [intOf]; omega
          have hc1 : ((k : Int) != (i : Int)) = true := by rw [bne_iff_ne]; omega
          by_cases hlj2 : l = j
          · have hc2 : ((l : Int) != (j : Int)) = false := by simp [hlj2]
            have HN := Lib.hid (show bst t m i j (np d k (l + 1)) = bb by rw [HSTEP.out, bst_no (by rw [HGOOD.out]; simp [hlj2])]; exact HBB.out)
            clear hlj2 hki2
            go_wp2
            clear hc1 hc2
            go_roundw
            case rel => exact ⟨l + 1, by omega, by go_num, by rw [HN.out], by rw [HN.out], by rw [HN.out], HB5.out⟩
            case measure => simp [intOf]; omega
          have hc2 : ((l : Int) != (j : Int)) = true := by rw [bne_iff_ne]; omega
          by_cases hh2 : 0 < h
          · have HGD := Lib.hid (show goodR m i j (k, l) = true by rw [HGOOD.out]; simp [hki2, hlj2, hh2])
            clear hki2 hlj2
            cases bb with
            | none =>
              have HN := Lib.hid (show bst t m i j (np d k (l + 1)) = some (k, l) by rw [HSTEP.out]; exact bst_one HGD.out HBB.out)
              simp only [rO, cO, bO]
              go_wp2
              clear hc1 hc2
              go_roundw
              case rel => exact ⟨l + 1, by omega, by go_num, by rw [HN.out]; rfl, by rw [HN.out]; rfl, by rw [HN.out, ← HG.out]; rfl, HB5.out⟩
              case measure => simp [intOf]; omega
            | some y =>
              simp only [rO, cO, bO]
              obtain ⟨y1, y2⟩ := y
              obtain ⟨gy, hgy⟩ : ∃ gy, rc t m i j (y1, y2) = gy := ⟨_, rfl⟩
              have HGY := Lib.hid hgy
              have hy0 : ¬ ((y1 : Int) < 0) := by omega
              rw [hgy]
              by_cases hlt3 : g < gy
              · have HN := Lib.hid (show bst t m i j (np d k (l + 1)) = some (k, l) by rw [HSTEP.out]; exact bst_new HGD.out HBB.out (by rw [HG.out, HGY.out]; exact hlt3))
                clear hgy
                go_wp2
                clear hc1 hc2
                go_roundw
                case rel => exact ⟨l + 1, by omega, by go_num, by rw [HN.out]; rfl, by rw [HN.out]; rfl, by rw [HN.out, ← HG.out]; rfl, HB5.out⟩
                case measure => simp [intOf]; omega
              · have HN := Lib.hid (show bst t m i j (np d k (l + 1)) = some (y1, y2) by rw [HSTEP.out]; exact bst_old HBB.out (by rw [HG.out, HGY.out]; exact hlt3))
                clear hgy
                go_wp2
                clear hc1 hc2
                go_roundw
                case rel => exact ⟨l + 1, by omega, by go_num, by rw [HN.out]; rfl, by rw [HN.out]; rfl, by rw [HN.out, ← HGY.out]; rfl, HB5.out⟩
                case measure => simp [intOf]; omega
          · have HN := Lib.hid (show bst t m i j (np d k (l + 1)) = bb by rw [HSTEP.out, bst_no (by rw [HGOOD.out]; simp [hh2])]; exact HBB.out)
            clear hki2 hlj2
            go_wp2
            clear hc1 hc2
            go_roundw
            case rel => exact ⟨l + 1, by omega, by go_num, by rw [HN.out], by rw [HN.out], by rw [HN.out], HB5.out⟩
            case measure => simp [intOf]; omega
        · obtain rfl : l = d := by omega
          have hli : ¬ (l : Int) < (l : Int) := by omega
          have HN := Lib.hid (np_next l k)
          obtain ⟨bb, hbb⟩ : ∃ bb, bst t m i j (np l k l) = bb := ⟨_, rfl⟩
          rw [hbb]
          have HBB := Lib.hid (show bst t m i j (np l (k + 1) 0) = bb by rw [← HN.out]; exact hbb)
          clear hbr hbb
          go_wp2
          go_roundw
          case rel => exact ⟨k + 1, by omega, by go_num, by rw [HBB.out], by rw [HBB.out], by rw [HBB.out], HBR.out⟩
          case measure => simp [intOf]; omega
    · obtain rfl : k = q := by omega
      have hki : ¬ (k : Int) < (k : Int) := by omega
      obtain ⟨bb, hbb⟩ : ∃ bb, bst t m i j (np d k 0) = bb := ⟨_, rfl⟩
      rw [hbb] at HYES HNOT ⊢
      cases bb with
      | none =>
        have HE := Lib.hid (HNOT.out rfl)
        have HN := Lib.hid (mineB_new (w := wr) hbr.size)
        have HF := Lib.hid (hbr.alloc hbr.size (.cells #[] TBS))
        simp only [rO, cO, bO]
        clear hbr hbb
        go_wp2
        refine bodyPost_ret (results_tmp2 rfl _ _ _) rfl ?_
        rw [HE.out]
        exact ⟨_, rfl, HN.out.up, HF.out⟩
      | some y =>
        obtain ⟨y1, y2⟩ := y
        have HE := Lib.hid (HYES.out _ rfl)
        obtain ⟨hin, _⟩ := bst_in hbb
        obtain ⟨hy1, hy2⟩ := np_all.1 hin
        have HY := Lib.hid (show y1 < k ∧ y2 < d from ⟨hy1, hy2⟩)
        have hy0 : ¬ ((y1 : Int) < 0) := by omega
        simp only [rO, cO, bO]
        generalize rc t m i j (y1, y2) = gy
        have HML := Lib.hid (show m.length ≤ 1000 by have := mk_len HMK.out; have := HQ.out; omega)
        have HMR := Lib.hid (show ∀ r ∈ m, r.length ≤ 100000 from fun r hr => by have := (mk_parts.1 HMK.out).2.2 r hr; have := (mk_tab HMK.out).w4; omega)
        clear hbr hbb hin hy1 hy2
        have hwr := HBR.out.size
        go_wp2_with fail
        refine (sMaskCp_is wr m _ (HU2.out.below HBR.out) HML.out HMR.out wr (Below.refl _ _)).mono ?_
        rintro e w5 ⟨v5, rfl, hm5, b5'⟩
        have b5 := HBR.out.trans (b5'.mono hwr)
        obtain ⟨hik, hjd⟩ := HIJ.out
        obtain ⟨hyk, hyd⟩ := HY.out
        have hiI : (i : Int) < (k : Int) := by omega
        have hjI : (j : Int) < (d : Int) := by omega
        have hy1I : (y1 : Int) < (k : Int) := by omega
        have hy2I : (y2 : Int) < (d : Int) := by omega
        have hiT : i < t.length := by rw [HQ.out]; exact hik
        have hyT : y1 < t.length := by rw [HQ.out]; exact hyk
        have HIT := Lib.hid hiT
        have HYT := Lib.hid hyT
        have hz5 : wr.heap.size ≤ w5.heap.size := b5'.size
        clear b5' hiT hyT
        obtain ⟨g5, c5, ga, ca, xa, hv5, f1, ⟨hga, _⟩, f2, f3, hm6⟩ := put_mask hm5 (HMK.out) (k := i) (l := j) (by rw [HQ.out]; exact hik) (by rw [HD.out]; exact hjd)
        rw [HD.out] at f1
        rw [HQ.out] at hv5
        obtain rfl := hv5
        have b6 := b5.setCell (p := ⟨ga, j, none⟩) (u := .bool true) (by show w.heap.size ≤ ga; omega)
        have HM6 := Lib.hid hm6
        have HB6 := Lib.hid b6
        clear hm5 hm6 b5 b6 hga
        go_upto_region 22 with fail
        generalize w5.setCell ⟨ga, j, none⟩ (.bool true) = w6 at *
        have hm6 := HM6.out
        have b6 := HB6.out
        clear HM6 HB6 f1 f2 f3
        obtain ⟨g5, c5, ga, ca, xa, hv5, f1, ⟨hga, _⟩, f2, f3, hm7⟩ := put_mask hm6 (mset_ok HMK.out HIT.out) (k := i) (l := y2) (by rw [HQ.out]; exact hik) (by rw [HD.out]; exact hyd)
        rw [HD.out] at f1
        injection hv5 with hv1 hv2 hv3
        injection hv1 with hv1
        injection hv1 with hv1 hv4 _
        subst hv1
        clear hv2 hv3 hv4
        have b7 := b6.setCell (p := ⟨ga, y2, none⟩) (u := .bool true) (by show w.heap.size ≤ ga; omega)
        have HM7 := Lib.hid hm7
        have HB7 := Lib.hid b7
        clear hm6 hm7 b6 b7 hga
        go_upto_region 23 with fail
        generalize w6.setCell ⟨ga, y2, none⟩ (.bool true) = w7 at *
        have hm7 := HM7.out
        have b7 := HB7.out
        clear HM7 HB7 f1 f2 f3
        obtain ⟨g5, c5, ga, ca, xa, hv5, f1, ⟨hga, _⟩, f2, f3, hm8⟩ := put_mask hm7 (mset_ok (mset_ok HMK.out HIT.out) HIT.out) (k := y1) (l := j) (by rw [HQ.out]; exact hyk) (by rw [HD.out]; exact hjd)
        rw [HD.out] at f1
        injection hv5 with hv1 hv2 hv3
        injection hv1 with hv1
        injection hv1 with hv1 hv4 _
        subst hv1
        clear hv2 hv3 hv4
        have b8 := b7.setCell (p := ⟨ga, j, none⟩) (u := .bool true) (by show w.heap.size ≤ ga; omega)
        have HM8 := Lib.hid hm8
        have HB8 := Lib.hid b8
        clear hm7 hm8 b7 b8 hga
        go_upto_region 24 with fail
        generalize w7.setCell ⟨ga, j, none⟩ (.bool true) = w8 at *
        have hm8 := HM8.out
        have b8 := HB8.out
        clear HM8 HB8 f1 f2 f3
        obtain ⟨g5, c5, ga, ca, xa, hv5, f1, ⟨hga, _⟩, f2, f3, hm9⟩ := put_mask hm8 (mset_ok (mset_ok (mset_ok HMK.out HIT.out) HIT.out) HYT.out) (k := y1) (l := y2) (by rw [HQ.out]; exact hyk) (by rw [HD.out]; exact hyd)
        rw [HD.out] at f1
        injection hv5 with hv1 hv2 hv3
        injection hv1 with hv1
        injection hv1 with hv1 hv4 _
        subst hv1
        clear hv2 hv3 hv4
        have b9 := b8.setCell (p := ⟨ga, y2, none⟩) (u := .bool true) (by show w.heap.size ≤ ga; omega)
        have HM9 := Lib.hid hm9
        have HB9 := Lib.hid b9
        clear hm8 hm9 b8 b9 hga
        go_upto_region 25 with fail
        generalize w8.setCell ⟨ga, y2, none⟩ (.bool true) = w9 at *
        have hm9 := HM9.out
        have b9 := HB9.out
        clear HM9 HB9 f1 f2 f3
        have HM := Lib.hid hm9
        have HF := Lib.hid b9
        clear hm9 b9
        go_wp2
        refine bodyPost_ret (results_tmp2 rfl _ _ _) rfl ?_
        rw [HE.out]
        exact ⟨_, rfl, (HM.out.lower hwr).up, HF.out⟩
end Go.Proofs.YtobgceebolmfcaaDoor
namespace Go.Proofs.YtobgceebolmfcaaDoor
open Go.RowKit
set_option maxRecDepth 100000 in
set_option maxHeartbeats 4000000 in
theorem sGrow_is (W : World) (t : Tb) (v : Value) (hv : IsR W v t) (f : Mk) (u : Value) (hu : IsM W u f) (n : Int) (r : Option Mk) (hr : growO t f n = r) (w : World) (hb : Below W.heap.size W w) :
    Calls Tryd.prog 20 #[v, u, .int .i64 n] w (OutMT (r.getD []) r.isSome w) := by
  have hvw := hv.below hb
  have huw := hu.below hb
  have HV := Lib.hid hvw
  have HU := Lib.hid huw
  obtain ⟨x, hx⟩ : ∃ x, needN t f f n = x := ⟨_, rfl⟩
  have HX := Lib.hid hx
  clear hv hu hb
  by_cases hlow : x < 0
  · have HE := Lib.hid (show r = none by rw [← hr]; exact grow_low (by rw [hx]; exact hlow))
    clear hvw huw hr hx
    go_enter Tryd.func20, Tryd.ntmps20
    go_wp2_with fail
    refine (sNeed_is w t _ HV.out f _ HU.out f _ HU.out n x HX.out w (Below.refl _ _)).mono ?_
    rintro e w1 ⟨rfl, b1⟩
    have HN := Lib.hid (mineB_new (w := w1) b1.size)
    have HF := Lib.hid (b1.alloc b1.size (.cells #[] TBS))
    clear b1
    go_wp2
    refine bodyPost_ret (results_tmp2 rfl _ _ _) rfl ?_
    rw [HE.out]
    exact ⟨_, rfl, HN.out.up, HF.out⟩
  have hok := needN_ok.1 (show 0 ≤ needN t f f n by omega)
  have hfk := (pOk3_iff.1 hok).1
  have HR := Lib.hid (show growF t f n 17 f = r by rw [← hr, grow_go (by omega)])
  have HFK := Lib.hid hfk
  have HMS := Lib.hid (show miss t f < 17 by have := miss_le hfk; omega)
  have HML := Lib.hid (show f.length ≤ 1000 by have := mk_len hfk; have := (mk_tab hfk).h4; omega)
  have HMR := Lib.hid (show ∀ r ∈ f, r.length ≤ 100000 from fun r hr => by have := (mk_parts.1 hfk).2.2 r hr; have := (mk_tab hfk).w4; omega)
  clear hvw huw hr hx hok hfk
  go_enter Tryd.func20, Tryd.ntmps20
  go_wp2_with fail
  refine (sNeed_is w t _ HV.out f _ HU.out f _ HU.out n x HX.out w (Below.refl _ _)).mono ?_
  rintro e w1 ⟨rfl, b1⟩
  have HB1 := Lib.hid b1
  clear b1
  go_wp2_with fail
  refine (sMaskCp_is w1 f _ (HU.out.below HB1.out) HML.out HMR.out w1 (Below.refl _ _)).mono ?_
  rintro e w2 ⟨v2, rfl, hm2, b2⟩
  have HB2 := Lib.hid (HB1.out.trans (b2.mono HB1.out.size))
  have HM2 := Lib.hid (show InM w2 w.heap.size w2.heap.size v2 f from (hm2.lower HB1.out.size))
  clear b2 hm2
  go_wp2
  go_loopg [8] 17 (fun k s8 wr => ∃ cur, InM wr w.heap.size wr.heap.size s8 cur ∧ mkOk t cur = true ∧ growF t f n k cur = r ∧ miss t cur < k ∧ Below w.heap.size w wr)
  case atStart => exact ⟨f, HM2.out, HFK.out, HR.out, HMS.out, HB2.out⟩
  case round =>
    obtain ⟨cur, hcm, hck, hgr, hms, hbr⟩ := hrel
    have HCM := Lib.hid hcm
    have HCK := Lib.hid hck
    have HGR := Lib.hid hgr
    have HBR := Lib.hid hbr
    have hzr := hbr.size
    obtain ⟨gb, hgb⟩ : ∃ gb, decide (needN t f cur n = 0) = gb := ⟨_, rfl⟩
    have HGB := Lib.hid hgb
    have HS := Lib.hid (sOk2_is wr t _ (HV.out.below hbr) f _ (HU.out.below hbr) cur _ hcm.is n gb hgb wr (Below.refl _ _))
    clear hcm hck hgr hbr hgb
    go_wp2_with fail
    refine HS.out.mono ?_
    rintro e w3 ⟨rfl, b3⟩
    have HB3 := Lib.hid (HBR.out.trans (b3.mono hzr))
    have HCM3 := Lib.hid (HCM.out.below b3).up
    have hz3 := b3.size
    clear b3
    cases gb
    · have hne : needN t f cur n ≠ 0 := by have := HGB.out; simpa using this
      obtain ⟨r2, hr2⟩ : ∃ r2, stepO t f cur n = r2 := ⟨_, rfl⟩
      have HR2 := Lib.hid hr2
      have HNE := Lib.hid hne
      have HST := Lib.hid (sStep_is w3 t _ (HV.out.below HB3.out) f _ (HU.out.below HB3.out) cur _ HCM3.out.is n r2 hr2 w3 (Below.refl _ _))
      clear hne hr2
      go_wp2_with fail
      refine HST.out.mono ?_
      rintro e w4 ⟨v4, rfl, hm4, b4⟩
      have HB4 := Lib.hid (HB3.out.trans (b4.mono HB3.out.size))
      cases r2 with
      | none =>
        have HE := Lib.hid (show r = none by rw [← HGR.out]; exact growF_fail HNE.out HR2.out)
        have HN := Lib.hid (mineB_new (w := w4) HB4.out.size)
        have HF := Lib.hid (HB4.out.alloc HB4.out.size (.cells #[] TBS))
        clear b4 hm4
        simp only [Option.isSome]
        go_wp2
        refine bodyPost_ret (results_tmp2 rfl _ _ _) rfl ?_
        rw [HE.out]
        exact ⟨_, rfl, HN.out.up, HF.out⟩
      | some m' =>
        have HM4 := Lib.hid (show InM w4 w.heap.size w4.heap.size v4 m' from hm4.lower HB3.out.size)
        have HMK := Lib.hid (step_ok HR2.out).2.1
        have HGN := Lib.hid (show growF t f n (gk - 1) m' = r by
          rw [← HGR.out]
          obtain ⟨g', rfl⟩ : ∃ g', gk = g' + 1 := ⟨gk - 1, by omega⟩
          rw [growF_step HNE.out HR2.out]; rfl)
        have hml := miss_lt HR2.out
        clear b4 hm4
        simp only [Option.isSome]
        go_wp2
        go_roundg (gk - 1)
        case measure => omega
        case rel => exact ⟨m', HM4.out, HMK.out, HGN.out, by omega, HB4.out⟩
    · have hz0 : needN t f cur n = 0 := by have := HGB.out; simpa using this
      have HE := Lib.hid (show r = some cur by rw [← HGR.out]; exact growF_done hz0 (by omega))
      clear hz0
      go_wp2
      refine bodyPost_ret (results_tmp2 rfl _ _ _) rfl ?_
      rw [HE.out]
      exact ⟨_, rfl, HCM3.out, HB3.out⟩
end Go.Proofs.YtobgceebolmfcaaDoor
