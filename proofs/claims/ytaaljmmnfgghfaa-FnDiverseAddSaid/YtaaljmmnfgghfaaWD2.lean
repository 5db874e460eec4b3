/- Laws of chapter 5 that go through people. -/
import Derived.Test.YtaaljmmnfgghfaaDI7
import Derived.Test.YtaaljmmnfgghfaaDS3
import Derived.Test.YtaaljmmnfgghfaaDM3
import Derived.Test.YtaaljmmnfgghfaaDD
import Derived.Test.YtaaljmmnfgghfaaA2
import Derived.Test.YtaaljmmnfgghfaaA4
namespace Go.Proofs.Ytaaljmmnfgghfaa
open Go.RowKit
def fndD (l : List Pn) (ll : List (List Int)) (r : Rc) (g : Nat) (j : Nat) : Bool := decide (l.length = 0) || (List.range j).any fun i => decide (dk l ll r i = g)
theorem fndD_succ (l : List Pn) (ll : List (List Int)) (r : Rc) (g j : Nat) : fndD l ll r g (j + 1) = (fndD l ll r g j || decide (dk l ll r j = g)) := by
  unfold fndD; rw [List.range_succ, List.any_append]; simp [Bool.or_assoc]
theorem fndD_all {l : List Pn} {ll : List (List Int)} {r : Rc} (h : grOk l ll r = true) : fndD l ll r (dlst (prsOf l ll r)) l.length = true := by
  unfold fndD
  by_cases hl : l = []
  · simp [hl]
  · obtain ⟨k, hk, e⟩ := dlst_dkis h hl
    rw [Bool.or_eq_true]; right
    rw [List.any_eq_true]
    exact ⟨k, List.mem_range.2 hk, by simp [e]⟩
set_option maxHeartbeats 2000000 in
theorem w_DiverseLeast (A : Option Addr) (n c : Nat) (hnc : n ≤ c) (hn : n ≤ maxLen) (w : World) (hb : Bytes w w.heap.size A n) :
    Calls Try.prog 10 #[.slice A n c] w fun e w' => e = .returned (.bool true) ∧ Below w.heap.size w w' := by
  have hn2 := hn
  unfold maxLen at hn2
  rcases (show 1048576 < n ∨ ¬ 1048576 < n by omega) with hbig | hbig
  · go_enter Try.func10, Try.ntmps10
    go_wp2
    go_ret
    exact ⟨rfl, Below.refl _ _⟩
  · go_enter Try.func10, Try.ntmps10
    go_wp2_with fail
    refine ((dDivLeast_any A n c hnc hn _ hb).mono fun _ _ h => h.byW).mono ?_
    rintro e W ⟨l, v, ll, u, r, rfl, hv, hu, hl, hll, _, _, hbW⟩
    obtain ⟨W1, hW⟩ : ∃ W1, W1 = W.alloc (.cells #[.int .i64 r.area, .int .i64 r.job, .int .i64 r.sex] TRc) := ⟨_, rfl⟩
    have hb1 : Below W.heap.size W W1 := by rw [hW]; exact (Below.refl _ _).alloc (Nat.le_refl _) _
    have hzW : W.heap.size < W1.heap.size := by rw [hW]; simp
    have e0 : W1.cell? ⟨W.heap.size, 0, none⟩ = some (.int .i64 r.area) := by rw [hW]; simp [go_sem]
    have e1 : W1.cell? ⟨W.heap.size, 1, none⟩ = some (.int .i64 r.job) := by rw [hW]; simp [go_sem]
    have e2 : W1.cell? ⟨W.heap.size, 2, none⟩ = some (.int .i64 r.sex) := by rw [hW]; simp [go_sem]
    have HC := Lib.hid (show ∀ w', Below W1.heap.size W1 w' → w'.cell? ⟨W.heap.size, 0, none⟩ = some (.int .i64 r.area) ∧ w'.cell? ⟨W.heap.size, 1, none⟩ = some (.int .i64 r.job) ∧ w'.cell? ⟨W.heap.size, 2, none⟩ = some (.int .i64 r.sex) from
      fun w' h => ⟨(h.cell (p := ⟨W.heap.size, 0, none⟩) hzW).trans e0, (h.cell (p := ⟨W.heap.size, 1, none⟩) hzW).trans e1, (h.cell (p := ⟨W.heap.size, 2, none⟩) hzW).trans e2⟩)
    have HV := Lib.hid (hv.below hb1)
    have HU := Lib.hid (hu.below hb1)
    have HB := Lib.hid (hbW.trans (hb1.mono hbW.size))
    have b0 := Below.refl W1.heap.size W1
    clear e0 e1 e2 hv hu hbW hb hb1
    rcases (show dleast l ll r < 0 ∨ 0 ≤ dleast l ll r by omega) with hneg | hg0
    · have HG := Lib.hid (dleast_no hneg)
      clear hneg
      go_wp2_with fail
      rw [← hW]
      clear hW
      refine (iDLeast_is W1 l _ HV.out ll _ HU.out r (-1) HG.out _ b0).mono ?_
      rintro e w1 ⟨rfl, b1⟩
      obtain ⟨c0, c1, c2⟩ := HC.out _ b1
      go_wp2_with fail
      refine (sDLeast_is W1 l _ HV.out ll _ HU.out r (-1) HG.out _ b1).mono ?_
      rintro e w2 ⟨rfl, b2⟩
      go_wp2
      go_ret
      exact ⟨by first | rfl | exact retb (by simp) | exact retb (by simp; omega), HB.out.trans (b2.mono HB.out.size)⟩
    · obtain ⟨g, hg⟩ : ∃ g, dleast l ll r = g := ⟨_, rfl⟩
      have hok := dleast_in hg0
      obtain ⟨G, hG⟩ : ∃ G, dlst (prsOf l ll r) = G := ⟨_, rfl⟩
      have hgG : g = (G : Int) := by rw [← hg, dleast_at hok, hG]
      subst hgG
      have HFA := Lib.hid (show fndD l ll r G l.length = true by rw [← hG]; exact fndD_all hok)
      have HG := Lib.hid hg; have HOK := Lib.hid hok
      have HGL := Lib.hid hG
      have hF0 : fndD l ll r G 0 = decide (l.length = 0) := by simp [fndD]
      have hz0 : l.length = 0 → G = 0 := fun h => by rw [← hG, List.eq_nil_of_length_eq_zero h]; rfl
      have HF0 := Lib.hid hF0; have HZ0 := Lib.hid hz0
      clear hg hok hG hF0 hz0
      obtain ⟨Av, cv, hv2, _, _, _⟩ := HV.out
      subst hv2
      obtain ⟨q, hq⟩ : ∃ q, l.length = q := ⟨_, rfl⟩
      rw [hq] at HV HFA HF0 HZ0 hl ⊢
      have HQ := Lib.hid hq
      clear hq
      go_wp2_with fail
      rw [← hW]
      clear hW
      refine (iDLeast_is W1 l _ HV.out ll _ HU.out r _ HG.out _ b0).mono ?_
      rintro e w1 ⟨rfl, b1⟩
      obtain ⟨c0, c1, c2⟩ := HC.out _ b1
      go_wp2_with fail
      refine (sDLeast_is W1 l _ HV.out ll _ HU.out r _ HG.out _ b1).mono ?_
      rintro e w2 ⟨rfl, b2⟩
      clear c0 c1 c2
      obtain ⟨c0, c1, c2⟩ := HC.out _ b2
      clear c0 c1 c2
      have H2 := Lib.hid b2
      by_cases hq0 : q = 0
      · subst hq0
        have hG0 : ((G : Int) == 0) = true := by rw [beq_iff_eq]; have := HZ0.out rfl; omega
        go_wp2
        go_loopw [8, 9] (fun f i wr => i = .int .i64 0 ∧ f = .bool true ∧ Below W1.heap.size W1 wr) (fun _ _ _ => 0)
        case atStart => exact ⟨rfl, rfl, H2.out⟩
        case round =>
          obtain ⟨rfl, rfl, hb⟩ := hrel
          go_wp2
          go_ret
          exact ⟨by first | rfl | exact retb (by simp) | exact retb (by simp; omega), HB.out.trans (hb.mono HB.out.size)⟩
      · have hqb : ((q : Int) == 0) = false := by rw [beq_eq_false_iff_ne]; omega
        go_wp2
        go_loopw [8, 9] (fun f i wr => ∃ j : Nat, j ≤ q ∧ i = .int .i64 j ∧ f = .bool (fndD l ll r G j) ∧ Below W1.heap.size W1 wr) (fun _ i _ => q - (intOf i).toNat)
        case atStart => exact ⟨0, Nat.zero_le _, rfl, by rw [HF0.out]; first | (simp at hq0; simp [hq0]) | (simp at hqb; simp [hqb]), H2.out⟩
        case round =>
          obtain ⟨j, hj, rfl, rfl, hb⟩ := hrel
          by_cases hlt : j < q
          · have hji : (j : Int) < (q : Int) := by omega
            have hjl : j < l.length := by rw [HQ.out]; exact hlt
            have HS := Lib.hid (dsize_at HOK.out hjl)
            have hge : G ≤ dk l ll r j := by rw [← HGL.out]; exact dlst_dk hjl
            have HN := Lib.hid (fndD_succ l ll r G j)
            obtain ⟨s, hs⟩ : ∃ s, dk l ll r j = s := ⟨_, rfl⟩
            rw [hs] at HS hge HN
            obtain ⟨f, hf⟩ : ∃ f, fndD l ll r G j = f := ⟨_, rfl⟩
            rw [hf] at HN ⊢
            clear hs hf hjl
            obtain ⟨c0, c1, c2⟩ := HC.out _ hb
            go_wp2_with fail
            refine (iDSize_is W1 l _ HV.out ll _ HU.out r j s HS.out _ hb).mono ?_
            rintro e w3 ⟨rfl, b3⟩
            have hge' : ¬ (s : Int) < (G : Int) := by omega
            cases f
            · by_cases hsg : s = G
              · have hb1 : ((s : Int) == (G : Int)) = true := by rw [beq_iff_eq]; omega
                clear c0 c1 c2
                go_wp2
                go_roundw
                case rel => exact ⟨j + 1, by omega, by go_num, by rw [HN.out]; simp [hsg], b3⟩
                case measure => simp [intOf]; omega
              · have hb1 : ((s : Int) == (G : Int)) = false := by rw [beq_eq_false_iff_ne]; omega
                clear c0 c1 c2
                go_wp2
                go_roundw
                case rel => exact ⟨j + 1, by omega, by go_num, by rw [HN.out]; simp [hsg], b3⟩
                case measure => simp [intOf]; omega
            · clear c0 c1 c2
              go_wp2
              go_roundw
              case rel => exact ⟨j + 1, by omega, by go_num, by rw [HN.out]; simp, b3⟩
              case measure => simp [intOf]; omega
          · have hjq : j = q := by omega
            have hji : ¬ (j : Int) < (q : Int) := by omega
            have hfa : fndD l ll r G j = true := by rw [hjq]; exact HFA.out
            rw [hfa]
            clear hfa
            go_wp2
            go_ret
            exact ⟨by first | rfl | exact retb (by simp) | exact retb (by simp; omega), HB.out.trans (hb.mono HB.out.size)⟩
theorem key_rec {l : List Pn} {ll : List (List Int)} {r : Rc} {k : Nat} (hk : k < (recL ll r l).length) : key (recL ll r l)[k] = ky ll r l k := key_at ll r (by rwa [recL_len] at hk)
set_option maxRecDepth 100000 in
set_option maxHeartbeats 4000000 in
theorem w_DiverseSame (A : Option Addr) (n c : Nat) (hnc : n ≤ c) (hn : n ≤ maxLen) (w : World) (hb : Bytes w w.heap.size A n) :
    Calls Try.prog 5 #[.slice A n c] w fun e w' => e = .returned (.bool true) ∧ Below w.heap.size w w' := by
  have hn2 := hn
  unfold maxLen at hn2
  rcases (show 1048576 < n ∨ ¬ 1048576 < n by omega) with hbig | hbig
  · go_enter Try.func5, Try.ntmps5
    go_wp2
    go_ret
    exact ⟨rfl, Below.refl _ _⟩
  · go_enter Try.func5, Try.ntmps5
    go_wp2_with fail
    refine (dDivSize_any A n c hnc hn _ hb).mono ?_
    rintro e W ⟨l, v, ll, u, r, k, rfl, hv, hu, hl, hll, _, _, _, _, hbW⟩
    obtain ⟨W1, hW⟩ : ∃ W1, W1 = W.alloc (.cells #[.int .i64 r.area, .int .i64 r.job, .int .i64 r.sex] TRc) := ⟨_, rfl⟩
    have hb1 : Below W.heap.size W W1 := by rw [hW]; exact (Below.refl _ _).alloc (Nat.le_refl _) _
    have hzW : W.heap.size < W1.heap.size := by rw [hW]; simp
    have e0 : W1.cell? ⟨W.heap.size, 0, none⟩ = some (.int .i64 r.area) := by rw [hW]; simp [go_sem]
    have e1 : W1.cell? ⟨W.heap.size, 1, none⟩ = some (.int .i64 r.job) := by rw [hW]; simp [go_sem]
    have e2 : W1.cell? ⟨W.heap.size, 2, none⟩ = some (.int .i64 r.sex) := by rw [hW]; simp [go_sem]
    have HC := Lib.hid (show ∀ w', Below W1.heap.size W1 w' → w'.cell? ⟨W.heap.size, 0, none⟩ = some (.int .i64 r.area) ∧ w'.cell? ⟨W.heap.size, 1, none⟩ = some (.int .i64 r.job) ∧ w'.cell? ⟨W.heap.size, 2, none⟩ = some (.int .i64 r.sex) from
      fun w' h => ⟨(h.cell (p := ⟨W.heap.size, 0, none⟩) hzW).trans e0, (h.cell (p := ⟨W.heap.size, 1, none⟩) hzW).trans e1, (h.cell (p := ⟨W.heap.size, 2, none⟩) hzW).trans e2⟩)
    have HV := Lib.hid (hv.below hb1)
    have HU := Lib.hid (hu.below hb1)
    have HB := Lib.hid (hbW.trans (hb1.mono hbW.size))
    have b0 := Below.refl W1.heap.size W1
    clear e0 e1 e2 hv hu hbW hb hb1
    rcases (show dsize l ll r k < 0 ∨ 0 ≤ dsize l ll r k by omega) with hneg | hg0
    · have HG := Lib.hid (dsize_no hneg)
      clear hneg
      go_wp2_with fail
      rw [← hW]
      clear hW
      refine (iDSize_is W1 l _ HV.out ll _ HU.out r _ (-1) HG.out _ b0).mono ?_
      rintro e w1 ⟨rfl, b1⟩
      obtain ⟨c0, c1, c2⟩ := HC.out _ b1
      go_wp2_with fail
      refine (sDSize_is W1 l _ HV.out ll _ HU.out r _ (-1) HG.out _ b1).mono ?_
      rintro e w2 ⟨rfl, b2⟩
      go_wp2
      go_ret
      exact ⟨by first | rfl | exact retb (by simp) | exact retb (by simp; omega), HB.out.trans (b2.mono HB.out.size)⟩
    · obtain ⟨g, hg⟩ : ∃ g, dsize l ll r k = g := ⟨_, rfl⟩
      obtain ⟨hok, j, hkj, hj⟩ := dsize_in hg0
      subst hkj
      have hjx : j < (recL ll r l).length := by rw [recL_len]; exact hj
      obtain ⟨f, hf⟩ : ∃ f, dfarI l ll r j = f := ⟨_, rfl⟩
      have HFF := Lib.hid hf
      rw [hg] at hg0
      have HG := Lib.hid hg; have HOK := Lib.hid hok; have HJ := Lib.hid hj
      clear hg hok hf
      obtain ⟨Av, cv, hv2, _, _, _⟩ := HV.out
      subst hv2
      go_wp2_with fail
      rw [← hW]
      clear hW
      refine (iDSize_is W1 l _ HV.out ll _ HU.out r _ _ HG.out _ b0).mono ?_
      rintro e w1 ⟨rfl, b1⟩
      obtain ⟨c0, c1, c2⟩ := HC.out _ b1
      go_wp2_with fail
      refine (sDSize_is W1 l _ HV.out ll _ HU.out r _ _ HG.out _ b1).mono ?_
      rintro e w2 ⟨rfl, b2⟩
      clear c0 c1 c2
      obtain ⟨c0, c1, c2⟩ := HC.out _ b2
      go_wp2_with fail
      refine (iRecP_is W1 l _ HV.out ll _ HU.out r (recL ll r l) true (by rw [recOut, if_pos HOK.out]) HOK.out _ b2).mono ?_
      rintro e w3 ⟨y, rfl, hy3, h3⟩
      have b3 := b2.trans (h3.mono b2.size)
      obtain ⟨Ay, cy, hyv, _, _, hyr⟩ := hy3.is
      subst hyv
      rw [recL_len]
      clear c0 c1 c2
      obtain ⟨c0, c1, c2⟩ := HC.out _ b3
      go_wp2_with fail
      refine (iDFar_is w3 l _ (HV.out.below b3) ll _ (HU.out.below b3) r j f HFF.out _ (Below.refl _ _)).mono ?_
      rintro e w4 ⟨rfl, h4⟩
      obtain ⟨by', oy, hAy, hby, q0, q1, q2, q3⟩ := hyr.at_ j hjx
      subst hAy
      have HYR := Lib.hid hyr
      obtain ⟨p, hp⟩ : ∃ p, (recL ll r l)[j] = p := ⟨_, rfl⟩
      have HP := Lib.hid hp
      rw [hp] at q0 q1 q2 q3
      obtain ⟨q, hq⟩ : ∃ q, l.length = q := ⟨_, rfl⟩
      have HQ := Lib.hid hq
      have HB3 := Lib.hid b3
      have H4 := Lib.hid h4
      have hji : (j : Int) < (q : Int) := by omega
      rw [hq] at HV hl ⊢
      clear hyr hy3 h3 hp q3 c0 c1 c2 hq h4 b3
      go_wp2
      go_loopw [12] (fun i wr => ∃ i' : Nat, i' ≤ q ∧ i = .int .i64 i' ∧ Below w3.heap.size w3 wr) (fun i _ => q - (intOf i).toNat)
      case atStart => exact ⟨0, Nat.zero_le _, rfl, H4.out⟩
      case round =>
        obtain ⟨i, hi, rfl, hb⟩ := hrel
        by_cases hlt : i < q
        · have hii : (i : Int) < (q : Int) := by omega
          have hil : i < l.length := by rw [HQ.out]; exact hlt
          have hix : i < (recL ll r l).length := by rw [recL_len]; exact hil
          obtain ⟨bz, oz, hAz, hbz, e0, e1, e2, e3⟩ := HYR.out.at_ i hix
          injection hAz with hAz
          injection hAz with g1 g2 _
          subst g1 g2
          have HKK := Lib.hid (show key (recL ll r l)[i] = key (recL ll r l)[j] → dsize l ll r i = g ∧ dfarI l ll r i = f from fun h => by
            rw [key_rec hix, key_rec hjx] at h
            obtain ⟨a, b⟩ := m_dSame HOK.out hil HJ.out h
            exact ⟨a.trans HG.out, b.trans HFF.out⟩)
          rw [HP.out] at HKK
          obtain ⟨p2, hp2⟩ : ∃ p2, (recL ll r l)[i] = p2 := ⟨_, rfl⟩
          rw [hp2] at HKK e0 e1 e2
          have d0 := (hb.cell (p := ⟨by', oy + j * 4, none⟩) hby).trans q0
          have d1 := (hb.cell (p := ⟨by', oy + j * 4 + 1, none⟩) hby).trans q1
          have d2 := (hb.cell (p := ⟨by', oy + j * 4 + 2, none⟩) hby).trans q2
          have f0 := (hb.cell (p := ⟨by', oy + i * 4, none⟩) hby).trans e0
          have f1 := (hb.cell (p := ⟨by', oy + i * 4 + 1, none⟩) hby).trans e1
          have f2 := (hb.cell (p := ⟨by', oy + i * 4 + 2, none⟩) hby).trans e2
          have hbr := HB3.out.trans (hb.mono HB3.out.size)
          obtain ⟨c0, c1, c2⟩ := HC.out _ hbr
          have HBR := Lib.hid hb
          clear e0 e1 e2 e3 hp2 hix hil hb
          have HKEY := Lib.hid (show (key p2 = key p) ↔ (p2.area = p.area ∧ p2.job = p.job ∧ p2.sex = p.sex) by simp [key])
          by_cases ha : p2.area = p.area
          · have ha' : (p2.area == p.area) = true := by rw [beq_iff_eq]; exact ha
            by_cases hj2 : p2.job = p.job
            · have hj' : (p2.job == p.job) = true := by rw [beq_iff_eq]; exact hj2
              by_cases hx : p2.sex = p.sex
              · have hx' : (p2.sex == p.sex) = true := by rw [beq_iff_eq]; exact hx
                obtain ⟨hd1, hd2⟩ := HKK.out (HKEY.out.2 ⟨ha, hj2, hx⟩)
                have HD1 := Lib.hid hd1
                have HD2 := Lib.hid hd2
                clear ha hj2 hx HKK hd1 hd2
                go_wp2
                go_quiet (fail)
                have hbq := below_draws hbr nq
                have hbq3 := below_draws HBR.out nq
                go_wp2_with fail
                refine (iDSize_is _ l _ (HV.out.below hbq) ll _ (HU.out.below hbq) r i g HD1.out _ (Below.refl _ _)).mono ?_
                rintro e w5 ⟨rfl, b5⟩
                have hb5 := hbq.trans (b5.mono hbq.size)
                clear c0 c1 c2 d0 d1 d2 f0 f1 f2
                obtain ⟨c0, c1, c2⟩ := HC.out _ hb5
                go_wp2_with fail
                refine (iDFar_is w5 l _ (HV.out.below hb5) ll _ (HU.out.below hb5) r i f HD2.out _ (Below.refl _ _)).mono ?_
                rintro e w6 ⟨rfl, b6⟩
                have hb6 := hbq3.trans ((b5.trans (b6.mono b5.size)).mono hbq3.size)
                go_wp2
                go_roundw
                case rel => exact ⟨i + 1, by omega, by go_num, hb6⟩
                case measure => simp [intOf]; omega
              · have hx' : (p2.sex == p.sex) = false := by rw [beq_eq_false_iff_ne]; exact hx
                clear ha hj2 hx HKK
                go_wp2
                go_quiet (fail)
                go_wp2
                go_roundw
                case rel => exact ⟨i + 1, by omega, by go_num, below_draws HBR.out nq⟩
                case measure => simp [intOf]; omega
            · have hj' : (p2.job == p.job) = false := by rw [beq_eq_false_iff_ne]; exact hj2
              clear ha hj2 HKK
              go_wp2
              go_quiet (fail)
              go_wp2
              go_roundw
              case rel => exact ⟨i + 1, by omega, by go_num, below_draws HBR.out nq⟩
              case measure => simp [intOf]; omega
          · have ha' : (p2.area == p.area) = false := by rw [beq_eq_false_iff_ne]; exact ha
            clear ha HKK
            go_wp2
            go_quiet (fail)
            go_wp2
            go_roundw
            case rel => exact ⟨i + 1, by omega, by go_num, below_draws HBR.out nq⟩
            case measure => simp [intOf]; omega
        · have hii : ¬ (i : Int) < (q : Int) := by omega
          have hbr := HB3.out.trans (hb.mono HB3.out.size)
          go_wp2
          go_ret
          exact ⟨by first | rfl | exact retb (by simp), HB.out.trans (hbr.mono HB.out.size)⟩
set_option maxHeartbeats 4000000 in
theorem w_DiverseAdd (A : Option Addr) (n c : Nat) (hnc : n ≤ c) (hn : n ≤ maxLen) (A2 : Option Addr) (m c2 : Nat) (_hmc : m ≤ c2) (hm : m ≤ maxLen) (w : World) (hb : Bytes w w.heap.size A n) (_hb2 : Bytes w w.heap.size A2 m) :
    Calls Try.prog 6 #[.slice A n c, .slice A2 m c2] w fun e w' => e = .returned (.bool true) ∧ Below w.heap.size w w' := by
  have hn2 := hn
  have hm2 := hm
  unfold maxLen at hn2 hm2
  rcases (show 1048576 < n ∨ (¬ 1048576 < n ∧ 1048576 < m) ∨ ¬ 1048576 < n ∧ ¬ 1048576 < m by omega) with hbig | ⟨hbig, hbig2⟩ | ⟨hbig, hbig2⟩
  · go_enter Try.func6, Try.ntmps6
    go_wp2
    go_ret
    exact ⟨rfl, Below.refl _ _⟩
  · go_enter Try.func6, Try.ntmps6
    go_wp2
    go_ret
    exact ⟨rfl, Below.refl _ _⟩
  · go_enter Try.func6, Try.ntmps6
    go_wp2_with fail
    refine (dDivSize_any A n c hnc hn _ hb).mono ?_
    rintro e W ⟨l, v, ll, u, r, k, rfl, hv, hu, hl, hll, _, _, _, _, hbW⟩
    obtain ⟨W1, hW⟩ : ∃ W1, W1 = W.alloc (.cells #[.int .i64 r.area, .int .i64 r.job, .int .i64 r.sex] TRc) := ⟨_, rfl⟩
    have hb1 : Below W.heap.size W W1 := by rw [hW]; exact (Below.refl _ _).alloc (Nat.le_refl _) _
    have hzW : W.heap.size < W1.heap.size := by rw [hW]; simp
    have e0 : W1.cell? ⟨W.heap.size, 0, none⟩ = some (.int .i64 r.area) := by rw [hW]; simp [go_sem]
    have e1 : W1.cell? ⟨W.heap.size, 1, none⟩ = some (.int .i64 r.job) := by rw [hW]; simp [go_sem]
    have e2 : W1.cell? ⟨W.heap.size, 2, none⟩ = some (.int .i64 r.sex) := by rw [hW]; simp [go_sem]
    have HC := Lib.hid (show ∀ w', Below W1.heap.size W1 w' → w'.cell? ⟨W.heap.size, 0, none⟩ = some (.int .i64 r.area) ∧ w'.cell? ⟨W.heap.size, 1, none⟩ = some (.int .i64 r.job) ∧ w'.cell? ⟨W.heap.size, 2, none⟩ = some (.int .i64 r.sex) from
      fun w' h => ⟨(h.cell (p := ⟨W.heap.size, 0, none⟩) hzW).trans e0, (h.cell (p := ⟨W.heap.size, 1, none⟩) hzW).trans e1, (h.cell (p := ⟨W.heap.size, 2, none⟩) hzW).trans e2⟩)
    have HV := Lib.hid (hv.below hb1)
    have HU := Lib.hid (hu.below hb1)
    have HB := Lib.hid (hbW.trans (hb1.mono hbW.size))
    have b0 := Below.refl W1.heap.size W1
    clear e0 e1 e2 hv hu hbW hb hb1
    rcases (show dsize l ll r k < 0 ∨ 0 ≤ dsize l ll r k by omega) with hneg | hg0
    · have HG := Lib.hid (dsize_no hneg)
      clear hneg
      go_wp2_with fail
      rw [← hW]
      clear hW
      refine (iDSize_is W1 l _ HV.out ll _ HU.out r _ (-1) HG.out _ b0).mono ?_
      rintro e w1 ⟨rfl, b1⟩
      obtain ⟨c0, c1, c2⟩ := HC.out _ b1
      go_wp2_with fail
      refine (sDSize_is W1 l _ HV.out ll _ HU.out r _ (-1) HG.out _ b1).mono ?_
      rintro e w2 ⟨rfl, b2⟩
      go_wp2
      go_ret
      exact ⟨by first | rfl | exact retb (by simp) | exact retb (by simp; omega), HB.out.trans (b2.mono HB.out.size)⟩
    · obtain ⟨g, hg⟩ : ∃ g, dsize l ll r k = g := ⟨_, rfl⟩
      obtain ⟨hok, j, hkj, hj⟩ := dsize_in hg0
      subst hkj
      have hS := m_dAdd hok hj (by omega) (pay := (m : Int) % 1000) (by omega)
      obtain ⟨P, hP⟩ : ∃ P, (m : Int) % 1000 = P := ⟨_, rfl⟩
      rw [hP] at hS
      have hgl : g ≤ 10 := by obtain ⟨_, f2, _, _⟩ := m_diverse hg0; omega
      rw [hg] at hS hg0
      have HP := Lib.hid hP
      have HG := Lib.hid hg
      clear hg hP hok
      obtain ⟨Al, d, hv2, hd1, hd2, hrow1⟩ := HV.out
      subst hv2
      have hlb2 : ((l.length : Int) == 40) = false := by rw [beq_eq_false_iff_ne]; omega
      go_wp2_with fail
      rw [← hW]
      clear hW
      refine (iDSize_is W1 l _ HV.out ll _ HU.out r _ _ HG.out _ b0).mono ?_
      rintro e w1 ⟨rfl, b1⟩
      obtain ⟨c0, c1, c2⟩ := HC.out _ b1
      go_wp2_with fail
      refine (sDSize_is W1 l _ HV.out ll _ HU.out r _ _ HG.out _ b1).mono ?_
      rintro e w2 ⟨rfl, b2⟩
      clear c0 c1 c2
      obtain ⟨c0, c1, c2⟩ := HC.out _ b2
      clear c0 c1 c2
      have hrow2 : Row w2 w2.heap.size Al (pcells l) := hrow1.below b2 (Nat.le_refl _) |>.more b2.size
      obtain ⟨bl, ol, hAl, hbl, q0, q1, q2, q3⟩ := hrow2.at_ j hj
      subst hAl
      obtain ⟨p0, hp0⟩ : ∃ p0, l[j] = p0 := ⟨_, rfl⟩
      rw [hp0] at q0 q1 q2 q3 hS
      obtain ⟨p, hp⟩ : ∃ p : Pn, p = ⟨p0.area, p0.job, p0.sex, P⟩ := ⟨_, rfl⟩
      obtain ⟨e1, e2, e3, e4⟩ : p0.area = p.area ∧ p0.job = p.job ∧ p0.sex = p.sex ∧ P = p.pay := by rw [hp]; exact ⟨rfl, rfl, rfl, rfl⟩
      rw [← hp] at hS
      obtain ⟨s, hs⟩ : ∃ s, dsize (l ++ [p]) ll r j = s := ⟨_, rfl⟩
      rw [hs] at hS
      have HS := Lib.hid hs
      have hji : (j : Int) < (l.length : Int) := by omega
      have E1 := Lib.hid e1; have E2 := Lib.hid e2; have E3 := Lib.hid e3; have E4 := Lib.hid e4
      clear hs hp hp0 e1 e2 e3 e4
      go_wp2_with fail
      rw [HP.out, E1.out, E2.out, E3.out, E4.out]
      obtain ⟨W5, hW5⟩ : ∃ W5, W5 = w2.alloc (.cells #[.int .i64 p.area, .int .i64 p.job, .int .i64 p.sex, .int .i64 p.pay] TP) := ⟨_, rfl⟩
      rw [← hW5]
      have hb5 : Below w2.heap.size w2 W5 := by rw [hW5]; exact (Below.refl _ _).alloc (Nat.le_refl _) _
      have hQ := Lib.hid (show W5.heap[w2.heap.size]? = some (lit1 p) by rw [hW5, lit1]; exact heap_alloc_new w2 _)
      have b5 : Below W1.heap.size W1 W5 := b2.trans (hb5.mono b2.size)
      have hrow5 : Row W5 W5.heap.size (some ⟨bl, ol, none⟩) (pcells l) := (hrow1.below b5 (Nat.le_refl _)).more b5.size
      clear hW5 hb5 hrow2 q0 q1 q2 q3 hbl
      generalize w2.heap.size = Q at *
      have hQ5 : Q < W5.heap.size := (Array.getElem?_eq_some_iff.1 hQ.out).1
      have q0 := cell_of_row W5 Q 0 _ _ _ hQ.out
      have q1 := cell_of_row W5 Q 1 _ _ _ hQ.out
      have q2 := cell_of_row W5 Q 2 _ _ _ hQ.out
      have q3 := cell_of_row W5 Q 3 _ _ _ hQ.out
      obtain ⟨c0, c1, c2⟩ := HC.out _ b5
      have hzx : W.heap.size < W5.heap.size := by have := b5.size; omega
      have hwg : IntKind.i64.wrap (g + 1) = g + 1 := IntWalk.i64_in _ (by omega)
      have HF := Lib.hid (show ∀ w' : World, Below W5.heap.size W5 w' → (Below W5.heap.size W5 w' ∧ w'.cell? ⟨Q, 0, none⟩ = some (.int .i64 p.area) ∧ w'.cell? ⟨Q, 1, none⟩ = some (.int .i64 p.job) ∧ w'.cell? ⟨Q, 2, none⟩ = some (.int .i64 p.sex) ∧ w'.cell? ⟨Q, 3, none⟩ = some (.int .i64 p.pay) ∧ w'.cell? ⟨W.heap.size, 0, none⟩ = some (.int .i64 r.area) ∧ w'.cell? ⟨W.heap.size, 1, none⟩ = some (.int .i64 r.job) ∧ w'.cell? ⟨W.heap.size, 2, none⟩ = some (.int .i64 r.sex)) from fun w' h => ⟨h, (h.cell (p := ⟨Q, 0, none⟩) hQ5).trans q0, (h.cell (p := ⟨Q, 1, none⟩) hQ5).trans q1, (h.cell (p := ⟨Q, 2, none⟩) hQ5).trans q2, (h.cell (p := ⟨Q, 3, none⟩) hQ5).trans q3, (h.cell (p := ⟨W.heap.size, 0, none⟩) hzx).trans c0, (h.cell (p := ⟨W.heap.size, 1, none⟩) hzx).trans c1, (h.cell (p := ⟨W.heap.size, 2, none⟩) hzx).trans c2⟩)
      have b0 : Below W5.heap.size W5 W5.drew := (Below.refl _ _).drew
      have bA : Below W5.heap.size W5 ((W5.alloc (.cells #[] TP)).drew) := ((Below.refl _ _).alloc (Nat.le_refl _) _).drew
      have bC : Below W5.heap.size W5 ((W5.alloc (lit1 p)).drew) := ((Below.refl _ _).alloc (Nat.le_refl _) _).drew
      have bAB : Below W5.heap.size W5 (((W5.alloc (.cells #[] TP)).alloc (lit1 p)).drew) := (((Below.refl _ _).alloc (Nat.le_refl _) _).alloc (by simp) _).drew
      have bCB : Below W5.heap.size W5 (((W5.alloc (lit1 p)).alloc (.cells #[] TP)).drew) := (((Below.refl _ _).alloc (Nat.le_refl _) _).alloc (by simp) _).drew
      have oA : Own ((W5.alloc (.cells #[] TP)).drew) W5.heap.size (.slice (some ⟨W5.heap.size, 0, none⟩) 0 0) [] := own_new W5 W5 (Below.refl _ _)
      have oAB : Own (((W5.alloc (.cells #[] TP)).alloc (lit1 p)).drew) W5.heap.size (.slice (some ⟨W5.heap.size, 0, none⟩) 0 0) [] := Own.alloc oA _
      have oCB : Own (((W5.alloc (lit1 p)).alloc (.cells #[] TP)).drew) W5.heap.size (.slice (some ⟨W5.heap.size + 1, 0, none⟩) 0 0) [] := ownA p
      have lAB := Lib.hid (show (((W5.alloc (.cells #[] TP)).alloc (lit1 p)).drew).heap[W5.heap.size + 1]? = some (lit1 p) from heap_alloc2_new W5 _ _)
      have lCB := Lib.hid (show (((W5.alloc (lit1 p)).alloc (.cells #[] TP)).drew).heap[W5.heap.size]? = some (lit1 p) from heap_alloc2_old W5 _ _)
      clear q0 q1 q2 q3 c0 c1 c2
      go_wp2
      go_region_held3 (fun w' => Below W5.heap.size W5 w' ∧ w'.cell? ⟨Q, 0, none⟩ = some (.int .i64 p.area) ∧ w'.cell? ⟨Q, 1, none⟩ = some (.int .i64 p.job) ∧ w'.cell? ⟨Q, 2, none⟩ = some (.int .i64 p.sex) ∧ w'.cell? ⟨Q, 3, none⟩ = some (.int .i64 p.pay) ∧ w'.cell? ⟨W.heap.size, 0, none⟩ = some (.int .i64 r.area) ∧ w'.cell? ⟨W.heap.size, 1, none⟩ = some (.int .i64 r.job) ∧ w'.cell? ⟨W.heap.size, 2, none⟩ = some (.int .i64 r.sex))
        (first | exact HF.out _ (by assumption) | exact HF.out _ b0 | exact HF.out _ bA | exact HF.out _ bC | exact HF.out _ bAB | exact HF.out _ bCB | exact HF.out _ (Below.alloc (by assumption) (Below.size (by assumption)) _))
        (first
          | (refine step_people rfl (.tmp 61) (.tmp 62) rfl W5.heap.size (.slice (some ⟨W5.heap.size, 0, none⟩) 0 0) [] rfl oA W5.heap.size (some ⟨bl, ol, none⟩) l.length d l rfl rfl (hrow5.below bA (Nat.le_refl _)) (by simp; omega) bA.size ?_
             intro v3 w3 ho3 hg3
             have hb3 : Below W5.heap.size W5 w3 := below_own bA oA hg3)
          | (refine step_people rfl (.tmp 61) (.tmp 62) rfl W5.heap.size (.slice (some ⟨W5.heap.size, 0, none⟩) 0 0) [] rfl oAB W5.heap.size (some ⟨bl, ol, none⟩) l.length d l rfl rfl (hrow5.below bAB (Nat.le_refl _)) (by simp; omega) bAB.size ?_
             intro v3 w3 ho3 hg3
             have hb3 : Below W5.heap.size W5 w3 := below_own bAB oAB hg3
             have hlit := rowA (Bd := W5.heap.size + 2) (keepA lAB.out hg3 (by simp [Value.ownBlock])) (by omega))
          | (refine step_people rfl (.tmp 61) (.tmp 62) rfl W5.heap.size (.slice (some ⟨W5.heap.size + 1, 0, none⟩) 0 0) [] rfl oCB W5.heap.size (some ⟨bl, ol, none⟩) l.length d l rfl rfl (hrow5.below bCB (Nat.le_refl _)) (by simp; omega) bCB.size ?_
             intro v3 w3 ho3 hg3
             have hb3 : Below W5.heap.size W5 w3 := below_own bCB oCB hg3
             have hlit := rowA (Bd := W5.heap.size + 2) (keepA lCB.out hg3 (by simp [Value.ownBlock])) (by omega))
          | (refine step_people rfl (.tmp 63) (.tmp 65) rfl W5.heap.size v3 ([] ++ l) (by simp [Act.eval]) (ho3.alloc _) (w3.heap.size + 1) (some ⟨w3.heap.size, 0, none⟩) 1 1 [p] rfl rfl (rowA (heap_alloc_new w3 _) (by omega)) (by simp; omega) (by have := hb3.size; simp; omega) ?_
             intro v4 w4 ho4 hg4
             have hb4 : Below W5.heap.size W5 w4 := below_own (hb3.alloc hb3.size _) (ho3.alloc _) hg4)
          | (refine step_people rfl (.tmp 63) (.tmp 65) rfl W5.heap.size v3 ([] ++ l) (by simp [Act.eval]) ho3 (W5.heap.size + 2) (some ⟨W5.heap.size + 1, 0, none⟩) 1 1 [p] rfl rfl hlit (by simp; omega) hb3.size ?_
             intro v4 w4 ho4 hg4
             have hb4 : Below W5.heap.size W5 w4 := below_own hb3 ho3 hg4)
          | (refine step_people rfl (.tmp 63) (.tmp 65) rfl W5.heap.size v3 ([] ++ l) (by simp [Act.eval]) ho3 (W5.heap.size + 2) (some ⟨W5.heap.size, 0, none⟩) 1 1 [p] rfl rfl hlit (by simp; omega) hb3.size ?_
             intro v4 w4 ho4 hg4
             have hb4 : Below W5.heap.size W5 w4 := below_own hb3 ho3 hg4)
          | (go_at_call 14
             refine (iDSize_is w4 (l ++ [p]) v4 (by simpa using ho4.isP') ll _ (HU.out.below (b5.trans (hb4.mono b5.size))) r j s HS.out _ (Below.refl _ _)).mono ?_
             rintro e w5 ⟨rfl, h5⟩
             have h6 : Below W5.heap.size W5 w5 := hb4.trans (h5.mono hb4.size)))
      all_goals
        rcases hS with rfl | rfl
        · go_wp2
          go_ret
          exact ⟨by first | rfl | exact retb (by simp), HB.out.trans ((b5.trans ((hb4.trans (h5.mono hb4.size)).mono b5.size)).mono HB.out.size)⟩
        · have hne : (g + 1 == g) = false := by rw [beq_eq_false_iff_ne]; omega
          go_wp2
          go_ret
          exact ⟨by first | rfl | exact retb (by simp), HB.out.trans ((b5.trans ((hb4.trans (h5.mono hb4.size)).mono b5.size)).mono HB.out.size)⟩
end Go.Proofs.Ytaaljmmnfgghfaa
