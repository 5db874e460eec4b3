/- The model's patterns: safe cells, cells that need more, costs. The model's patterns: how many cells need more, which is the first one, what cells cost. The model's patterns: a mask copied, the first cell that is not safe, the cost of a rectangle. The model's patterns: a step. The model's patterns: growing, costs. -/
import Derived.Test.YtdjjkfhdgnlkeaaDoorVMA
import Derived.Test.YtdjjkfhdgnlkeaaDoorWN0
import Derived.Test.YtdjjkfhdgnlkeaaDoorRQ
import Derived.Test.YtdjjkfhdgnlkeaaDoorTLA
import Derived.Test.YtdjjkfhdgnlkeaaDoorTS7
import Derived.Deep.Cut
namespace Go.Proofs.YtdjjkfhdgnlkeaaDoor
open Go.RowKit
set_option maxRecDepth 100000 in
set_option maxHeartbeats 2000000 in
theorem sSafe1_is (W : World) (t : Tb) (v : Value) (hv : IsR W v t) (m : Mk) (u : Value) (hu : IsM W u m) (hm : mkOk t m = true) (n : Int) (hn : 0 ≤ n ∧ n ≤ 99) (k l : Nat) (hk : k < t.length) (hl : l < wd t) (g : Bool) (hg : safB t m n k l = g) (w : World) (hb : Below W.heap.size W w) :
    Calls Tryd.prog 30 #[v, u, .int .i64 k, .int .i64 l, .int .i64 n] w (Back (.bool g) W) := by
  have ht := mk_tab hm
  have HV := Lib.hid hv
  have HU := Lib.hid hu
  have HB := Lib.hid hb
  have h1 := ht.h1
  have h2 := ht.w1
  have hcb := ht.cell hk hl
  obtain ⟨b, o, c, rb, ro, rc, hvv, hallt⟩ := hv.all ht
  obtain ⟨b', o', c', rb', ro', rc', huu, hallm⟩ := hu.all (d := wd t) (by rw [mk_len hm]; exact h1) h2 (mk_parts.1 hm).2.2
  obtain ⟨hi, hhi⟩ : ∃ x, hiI t m k l = x := ⟨_, rfl⟩
  obtain ⟨lo, hlo⟩ : ∃ x, loI t m k l = x := ⟨_, rfl⟩
  obtain ⟨y, hy⟩ : ∃ y, cF t k l = y := ⟨_, rfl⟩
  obtain ⟨fl, hfl⟩ : ∃ y, hF m k l = y := ⟨_, rfl⟩
  have HHI := Lib.hid hhi
  have HLO := Lib.hid hlo
  rw [safB, hhi, hlo, hy, hfl] at hg
  have HG := Lib.hid hg
  rw [hy] at hcb
  rw [mk_len hm] at huu hallm
  have HCE := Lib.hid (show ∀ X, Below W.heap.size W X → (X.cell? ⟨b, o + k, none⟩ = some (.slice (some ⟨rb k, ro k, none⟩) (wd t) (rc k)) ∧ X.cell? ⟨rb k, ro k + l, none⟩ = some (.int .i64 y)) ∧ X.cell? ⟨b', o' + k, none⟩ = some (.slice (some ⟨rb' k, ro' k, none⟩) (wd t) (rc' k)) ∧ X.cell? ⟨rb' k, ro' k + l, none⟩ = some (.bool fl) from fun X h =>
    ⟨⟨(hallt X h).1 k hk, by rw [← hy]; exact (hallt X h).2 k l hk hl⟩, (hallm X h).1 k hk, by rw [← hfl]; exact (hallm X h).2 k l hk hl⟩)
  subst hvv huu
  obtain ⟨q, hq⟩ : ∃ q, t.length = q := ⟨_, rfl⟩
  obtain ⟨d, hd⟩ : ∃ d, wd t = d := ⟨_, rfl⟩
  rw [hq] at HV HU hk ⊢
  rw [hd] at HCE hl
  generalize rb k = x1 at HCE
  generalize ro k = x2 at HCE
  generalize rc k = x3 at HCE
  generalize rb' k = x4 at HCE
  generalize ro' k = x5 at HCE
  generalize rc' k = x6 at HCE
  have hki : (k : Int) < (q : Int) := by omega
  have hli : (l : Int) < (d : Int) := by omega
  obtain ⟨⟨e0, e1⟩, e2, e3⟩ := HCE.out w hb
  have hw1 : IntKind.i64.wrap (y + n) = y + n := by rw [IntKind.wrap_i64]; omega
  have hw2 : IntKind.i64.wrap (y - n) = y - n := by rw [IntKind.wrap_i64]; omega
  clear hv hu hb hm hg ht hallt hallm hq hd hhi hlo hy hfl h1 h2
  cases fl
  · have HE := Lib.hid (show g = false by rw [← HG.out]; rfl)
    go_enter Tryd.func30, Tryd.ntmps30
    go_wp2
    go_ret
    exact ⟨by rw [HE.out]; rfl, HB.out⟩
  go_enter Tryd.func30, Tryd.ntmps30
  go_wp2_with fail
  refine (sHigh_is W t _ HV.out m _ HU.out k l hi HHI.out w HB.out).mono ?_
  rintro e w1 ⟨rfl, b1⟩
  have HB1 := Lib.hid b1
  clear e0 e1 e2 e3 b1
  by_cases hge : y + n ≤ hi
  · go_wp2_with fail
    refine (sLow_is W t _ HV.out m _ HU.out k l lo HLO.out w1 HB1.out).mono ?_
    rintro e w2 ⟨rfl, b2⟩
    have HGE := Lib.hid hge
    have HB2 := Lib.hid b2
    clear b2 hge
    go_wp2
    all_goals
      go_ret
      refine ⟨?_, HB2.out⟩
      rw [← HG.out, decide_eq_true HGE.out]
      exact retb (by simp; omega)
  · have HE := Lib.hid (show g = false by rw [← HG.out]; simp [hge])
    go_wp2
    go_ret
    exact ⟨by rw [HE.out]; rfl, HB1.out⟩
set_option maxRecDepth 100000 in
set_option maxHeartbeats 2000000 in
theorem sPSafe_is (W : World) (t : Tb) (v : Value) (hv : IsR W v t) (m : Mk) (u : Value) (hu : IsM W u m) (i j n : Int) (g : Bool) (hg : pSafe t m i j n = g) (w : World) (hb : Below W.heap.size W w) :
    Calls Tryd.prog 10 #[v, u, .int .i64 i, .int .i64 j, .int .i64 n] w (Back (.bool g) W) := by
  have HV := Lib.hid hv
  have HU := Lib.hid hu
  have HB := Lib.hid hb
  obtain ⟨ok, hok⟩ : ∃ ok, bOk t m i j = ok := ⟨_, rfl⟩
  have HOK := Lib.hid hok
  rw [pSafe, hok] at hg
  have HG := Lib.hid hg
  clear hv hu hb hg
  cases ok
  · have HE := Lib.hid (show g = false by rw [← HG.out]; rfl)
    clear hok
    go_enter Tryd.func10, Tryd.ntmps10
    go_wp2_with fail
    refine (sOk_is W t _ HV.out m _ HU.out i j false HOK.out w HB.out).mono ?_
    rintro e w1 ⟨rfl, b1⟩
    go_wp2
    go_ret
    exact ⟨by rw [HE.out]; rfl, b1⟩
  obtain ⟨hm, h1, h2, h3, h4⟩ := bOk_iff.1 hok
  obtain ⟨k, rfl⟩ := Int.eq_ofNat_of_zero_le h1
  obtain ⟨l, rfl⟩ := Int.eq_ofNat_of_zero_le h3
  obtain ⟨nn, hnn⟩ : ∃ nn, in3 n 0 99 = nn := ⟨_, rfl⟩
  have HM := Lib.hid hm
  have HK := Lib.hid (show k < t.length by omega)
  have HL := Lib.hid (show l < wd t by omega)
  have HN := Lib.hid hnn
  clear hok hm h1 h2 h3 h4 hnn
  go_enter Tryd.func10, Tryd.ntmps10
  go_wp2_with fail
  refine (sOk_is W t _ HV.out m _ HU.out k l true HOK.out w HB.out).mono ?_
  rintro e w1 ⟨rfl, b1⟩
  have HB1 := Lib.hid b1
  clear b1
  go_wp2_with fail
  refine (l6In_any n 0 99 w1).mono ?_
  rintro e w2 ⟨rfl, rfl⟩
  rw [HN.out]
  cases nn
  · have HE := Lib.hid (show g = false by rw [← HG.out, HN.out]; rfl)
    go_wp2
    go_ret
    exact ⟨by rw [HE.out]; rfl, HB1.out⟩
  · have hn9 : 0 ≤ n ∧ n ≤ 99 := by have := HN.out; simp only [in3, Bool.and_eq_true, decide_eq_true_eq] at this; exact this
    have HS := Lib.hid (show safB t m n k l = g by rw [← HG.out, HN.out]; rfl)
    go_wp2_with fail
    refine (sSafe1_is W t _ HV.out m _ HU.out HM.out n hn9 k l HK.out HL.out g HS.out w1 HB1.out).mono ?_
    rintro e w2 ⟨rfl, b2⟩
    go_wp2
    go_ret
    exact ⟨rfl, b2⟩
end Go.Proofs.YtdjjkfhdgnlkeaaDoor
namespace Go.Proofs.YtdjjkfhdgnlkeaaDoor
open Go.RowKit
theorem np_row (d i j : Nat) : ∀ n, ∃ r, np d i (j + n) = np d i j ++ r
  | 0 => ⟨[], by simp⟩
  | n + 1 => by
    obtain ⟨r, hr⟩ := np_row d i j n
    exact ⟨r ++ [(i, j + n)], by rw [← Nat.add_assoc, np_step, hr, List.append_assoc]⟩
theorem np_rows (d i : Nat) : ∀ n, ∃ r, np d (i + n) 0 = np d i 0 ++ r
  | 0 => ⟨[], by simp⟩
  | n + 1 => by
    obtain ⟨r, hr⟩ := np_rows d i n
    obtain ⟨r2, h2⟩ := np_row d (i + n) 0 d
    rw [Nat.zero_add, np_next] at h2
    exact ⟨r ++ r2, by rw [← Nat.add_assoc, h2, hr, List.append_assoc]⟩
theorem np_pre {q d i j : Nat} (hi : i < q) (hj : j < d) : ∃ r, np d q 0 = np d i j ++ (i, j) :: r := by
  obtain ⟨n, rfl⟩ : ∃ n, q = i + 1 + n := ⟨q - (i + 1), by omega⟩
  obtain ⟨m, rfl⟩ : ∃ m, d = j + 1 + m := ⟨d - (j + 1), by omega⟩
  obtain ⟨r, hr⟩ := np_rows (j + 1 + m) (i + 1) n
  obtain ⟨r2, h2⟩ := np_row (j + 1 + m) i (j + 1) m
  rw [np_next, np_step] at h2
  exact ⟨r2 ++ r, by rw [hr, h2]; simp⟩
theorem fst1_hit {u : Nat → Nat → Bool} {q d i j : Nat} (hi : i < q) (hj : j < d) (h : fst1 u (np d i j) = none) (hu : u i j = true) : fst1 u (np d q 0) = some (i, j) := by
  obtain ⟨r, hr⟩ := np_pre hi hj
  unfold fst1 at h ⊢
  rw [hr, List.find?_append, h]
  simp [hu]
theorem fst1_on {u : Nat → Nat → Bool} {d i j : Nat} (h : fst1 u (np d i j) = none) (hu : u i j = false) : fst1 u (np d i (j + 1)) = none := by
  rw [np_step, fst1_snoc, h]
  simp [hu]
/-- 1 or 0. -/
def iF (f : Nat → Nat → Bool) (k l : Nat) : Int := if f k l = true then 1 else 0
theorem iF_bd (f : Nat → Nat → Bool) (k l : Nat) : 0 ≤ iF f k l ∧ iF f k l ≤ 1 := by unfold iF; split <;> omega
theorem iF_row (f : Nat → Nat → Bool) (k n : Nat) : 0 ≤ sm n (iF f k) ∧ sm n (iF f k) ≤ n := by
  refine ⟨sm_pos fun l _ => (iF_bd f k l).1, ?_⟩
  have := sm_le_mul (n := n) (f := iF f k) (c := 1) fun l _ => (iF_bd f k l).2
  omega
theorem iF_all (f : Nat → Nat → Bool) (k n : Nat) : 0 ≤ sm k (fun a => sm n (iF f a)) ∧ sm k (fun a => sm n (iF f a)) ≤ k * n :=
  ⟨sm_pos fun a _ => (iF_row f a n).1, sm_le_mul fun a _ => (iF_row f a n).2⟩
end Go.Proofs.YtdjjkfhdgnlkeaaDoor
namespace Go.Proofs.YtdjjkfhdgnlkeaaDoor
open Go.RowKit
/-- The rows and the columns of a rectangle's four cells. -/
def pR (i k a : Nat) : Nat := if a < 2 then i else k
def pC (j l a : Nat) : Nat := if a % 2 = 0 then j else l
def nN (m : Mk) (a b : Nat) : Int := if hF m a b = true then 0 else 1
def nMany (m : Mk) (i j k l : Nat) : Int := sm 4 fun a => nN m (pR i k a) (pC j l a)
theorem rc_sum (t : Tb) (m : Mk) (i j k l : Nat) : (sm 4 fun a => nC t m (pR i k a) (pC j l a)) = rc t m i j (k, l) := by simp only [sm, rc, pR, pC]; simp
theorem nMany_new (m : Mk) (i j k l : Nat) : isNew m i j (k, l) = decide (0 < nMany m i j k l) := by
  simp only [isNew, nMany, nN, sm, pR, pC]
  simp only [show (0 : Nat) < 2 by decide, show (1 : Nat) < 2 by decide, show ¬ (2 : Nat) < 2 by decide, show ¬ (3 : Nat) < 2 by decide, if_true, if_false, Nat.reduceMod, show ¬ (1 : Nat) = 0 by decide]
  generalize hF m i j = x1
  generalize hF m i l = x2
  generalize hF m k j = x3
  generalize hF m k l = x4
  revert x1 x2 x3 x4; decide
end Go.Proofs.YtdjjkfhdgnlkeaaDoor
namespace Go.Proofs.YtdjjkfhdgnlkeaaDoor
open Go.RowKit
def rO (b : Option (Nat × Nat)) : Int := match b with | none => -1 | some x => x.1
def cO (b : Option (Nat × Nat)) : Int := match b with | none => -1 | some x => x.2
def bO (t : Tb) (m : Mk) (i j : Nat) (b : Option (Nat × Nat)) : Int := match b with | none => 0 | some x => rc t m i j x
theorem put_mask {t : Tb} {m : Mk} {w : World} {B T k l : Nat} {v : Value} (h : MineB w B T v m) (hm : mkOk t m = true) (hk : k < t.length) (hl : l < wd t) :
    ∃ g c gi ci x, v = .slice (some ⟨g, 0, none⟩) t.length c ∧ w.cell? ⟨g, k, none⟩ = some (.slice (some ⟨gi, 0, none⟩) (wd t) ci) ∧ (B ≤ gi ∧ gi < T) ∧ w.cell? ⟨gi, l, none⟩ = some (.bool x) ∧ w.frozen? ⟨gi, l, none⟩ = false ∧
      MineB (w.setCell ⟨gi, l, none⟩ (.bool true)) B T v (mset m k l) := by
  obtain ⟨g, c, gi, ci, hv, h1, _, h2, _, h3, h4, h5⟩ := h.cell (i := k) (j := l) (by rw [mk_len hm]; exact hk) (by rw [mk_row hm hk]; exact hl)
  rw [mk_len hm] at hv
  rw [mk_row hm hk] at h1
  exact ⟨g, c, gi, ci, _, hv, h1, h2, h3, h4, h5 true⟩
end Go.Proofs.YtdjjkfhdgnlkeaaDoor
namespace Go.Proofs.YtdjjkfhdgnlkeaaDoor
open Go.RowKit
set_option maxRecDepth 100000 in
set_option maxHeartbeats 4000000 in
theorem sCost_is (W : World) (t : Tb) (v : Value) (hv : IsR W v t) (m : Mk) (u : Value) (hu : IsM W u m) (g : Int) (hg : costN t m = g) (w : World) (hb : Below W.heap.size W w) :
    Calls Tryd.prog 19 #[v, u] w (Back (.int .i64 g) W) := by
  have HV := Lib.hid hv
  have HU := Lib.hid hu
  have HB := Lib.hid hb
  have HG := Lib.hid hg
  obtain ⟨fk, hfk⟩ : ∃ fk, mkOk t m = fk := ⟨_, rfl⟩
  have HFK := Lib.hid hfk
  cases fk
  · have HE := Lib.hid (show g = -1 by rw [← hg]; exact costN_no hfk)
    clear hv hu hb hg hfk
    go_enter Tryd.func19, Tryd.ntmps19
    go_wp2_with fail
    refine (sMask_is W t _ HV.out m _ HU.out false HFK.out w HB.out).mono ?_
    rintro e w1 ⟨rfl, b1⟩
    go_wp2
    go_ret
    exact ⟨by rw [HE.out]; rfl, b1⟩
  have ht := mk_tab hfk
  rw [costN_yes hfk] at hg
  obtain ⟨b, o, c, rb, ro, rc, hvv, hallt⟩ := hv.all ht
  obtain ⟨b', o', c', rb', ro', rc', huu, hallm⟩ := hu.all (d := wd t) (by rw [mk_len hfk]; exact ht.h1) ht.w1 (mk_parts.1 hfk).2.2
  rw [mk_len hfk] at huu hallm
  have h14 := ht.h4
  have h11 := ht.h1
  have hd4 := ht.w4
  have hd1 := ht.w1
  have hcell : ∀ k l, k < t.length → l < wd t → 0 ≤ costF t m k l ∧ costF t m k l ≤ 99 := fun k l hk hl => by have := ht.cell hk hl; unfold costF; split <;> omega
  obtain ⟨q, hq⟩ : ∃ q, t.length = q := ⟨_, rfl⟩
  obtain ⟨d, hd⟩ : ∃ d, wd t = d := ⟨_, rfl⟩
  rw [hq, hd] at hg hallt hallm hcell
  rw [hd] at hd4 hd1
  rw [hq] at h14 h11 hvv huu
  have HGG := Lib.hid hg
  have HT0 := Lib.hid (show ∀ X, Below W.heap.size W X → X.cell? ⟨b, o, none⟩ = some (.slice (some ⟨rb 0, ro 0, none⟩) d (rc 0)) from fun X h => (hallt X h).1 0 h11)
  have HMC := Lib.hid hallm
  have HTC := Lib.hid hallt
  have HRW := Lib.hid (show ∀ k l, k < q → l ≤ d → 0 ≤ sm l (costF t m k) ∧ sm l (costF t m k) ≤ l * 99 from fun k l hk hl => ⟨sm_pos fun x hx => (hcell k x hk (by omega)).1, sm_le_mul fun x hx => (hcell k x hk (by omega)).2⟩)
  have HCL := Lib.hid hcell
  have HAL := Lib.hid (show ∀ k, k ≤ q → 0 ≤ sm k (fun a => sm d (costF t m a)) ∧ sm k (fun a => sm d (costF t m a)) ≤ k * 396 from fun k hk => ⟨sm_pos fun a ha => sm_pos fun x hx => (hcell a x (by omega) hx).1, sm_le_mul fun a ha => by
    have h1 : sm d (costF t m a) ≤ d * 99 := sm_le_mul fun x hx => (hcell a x (by omega) hx).2
    omega⟩)
  subst hvv huu
  generalize rb 0 = x1 at HT0
  generalize ro 0 = x2 at HT0
  generalize rc 0 = x3 at HT0
  have hq0 : (0 : Int) < (q : Int) := by omega
  have hqn : 0 < q := by omega
  clear hu hv hb hfk hg ht hallt hallm hq hd hcell
  go_enter Tryd.func19, Tryd.ntmps19
  go_wp2_with fail
  refine (sMask_is W t _ HV.out m _ HU.out true HFK.out w HB.out).mono ?_
  rintro e w1 ⟨rfl, b1⟩
  have HB1 := Lib.hid b1
  clear b1
  go_wp2
  go_loopw [5, 6] (fun s i wr => ∃ k : Nat, k ≤ q ∧ i = .int .i64 k ∧ s = .int .i64 (sm k fun a => sm d (costF t m a)) ∧ Below W.heap.size W wr) (fun _ i _ => q - (intOf i).toNat)
  case atStart => exact ⟨0, Nat.zero_le _, rfl, rfl, HB1.out⟩
  case round =>
    obtain ⟨k, hk, rfl, rfl, hbr⟩ := hrel
    have HBR := Lib.hid hbr
    by_cases hlt : k < q
    · have hki : (k : Int) < (q : Int) := by omega
      have hkd : sm (k + 1) (fun a => sm d (costF t m a)) = sm k (fun a => sm d (costF t m a)) + sm d (costF t m k) := rfl
      have hb1 := HAL.out k hk
      obtain ⟨s, hs⟩ : ∃ s, (sm k fun a => sm d (costF t m a)) = s := ⟨_, rfl⟩
      rw [hs] at hb1 hkd ⊢
      have HKD := Lib.hid hkd
      have hsb : 0 ≤ s ∧ s ≤ 2000 := by omega
      clear hbr hkd hs hb1
      go_wp2
      go_loopw [5, 7] (fun s' j wr' => ∃ l : Nat, l ≤ d ∧ j = .int .i64 l ∧ s' = .int .i64 (s + sm l (costF t m k)) ∧ Below W.heap.size W wr') (fun _ j _ => d - (intOf j).toNat)
      case atStart => exact ⟨0, Nat.zero_le _, rfl, by simp [sm], HBR.out⟩
      case round =>
        clear HBR
        obtain ⟨l, hl, rfl, rfl, hbr⟩ := hrel
        have HBR := Lib.hid hbr
        have e0 := HT0.out wr hbr
        have hrow := HRW.out k l hlt hl
        have hnext : sm (l + 1) (costF t m k) = sm l (costF t m k) + costF t m k l := rfl
        obtain ⟨r, hr⟩ : ∃ r, sm l (costF t m k) = r := ⟨_, rfl⟩
        rw [hr] at hrow hnext ⊢
        by_cases hlt2 : l < d
        · have hli : (l : Int) < (d : Int) := by omega
          have e1 := (HMC.out wr hbr).1 k hlt
          have e2 := (HMC.out wr hbr).2 k l hlt hlt2
          have e3 := (HTC.out wr hbr).1 k hlt
          have e4 := (HTC.out wr hbr).2 k l hlt hlt2
          have hcl := HCL.out k l hlt hlt2
          obtain ⟨fl, hfl⟩ : ∃ fl, hF m k l = fl := ⟨_, rfl⟩
          obtain ⟨y, hy⟩ : ∃ y, cF t k l = y := ⟨_, rfl⟩
          have hval : costF t m k l = if fl = true then y else 0 := by unfold costF; rw [hfl, hy]
          rw [hfl] at e2
          rw [hy] at e4
          rw [hval] at hnext hcl
          generalize rb' k = y1 at e1 e2
          generalize ro' k = y2 at e1 e2
          generalize rc' k = y3 at e1
          generalize rb k = y4 at e3 e4
          generalize ro k = y5 at e3 e4
          generalize rc k = y6 at e3
          have HNX := Lib.hid hnext
          clear hbr hr hfl hy hval hnext
          cases fl
          · clear hcl
            go_wp2
            go_roundw
            case rel => exact ⟨l + 1, by omega, by go_num, by rw [HNX.out]; simp, HBR.out⟩
            case measure => simp [intOf]; omega
          · have hwr : IntKind.i64.wrap (s + r + y) = s + r + y := by rw [IntKind.wrap_i64]; simp at hcl; omega
            clear hcl
            go_wp2
            go_roundw
            case rel => exact ⟨l + 1, by omega, by go_num, by rw [HNX.out]; simp [Int.add_assoc], HBR.out⟩
            case measure => simp [intOf]; omega
        · obtain rfl : l = d := by omega
          have hli : ¬ (l : Int) < (l : Int) := by omega
          have HR := Lib.hid hr
          clear hbr hr hnext hrow
          go_wp2
          go_roundw
          case rel => exact ⟨k + 1, by omega, by go_num, by rw [HKD.out, HR.out], HBR.out⟩
          case measure => simp [intOf]; omega
    · obtain rfl : k = q := by omega
      have hki : ¬ (k : Int) < (k : Int) := by omega
      clear hbr
      rw [HGG.out]
      go_wp2
      go_ret
      exact ⟨rfl, HBR.out⟩
end Go.Proofs.YtdjjkfhdgnlkeaaDoor
