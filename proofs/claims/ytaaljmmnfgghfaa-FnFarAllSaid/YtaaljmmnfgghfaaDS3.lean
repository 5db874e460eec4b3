/- The contract of the model's DiverseFar. -/
import Derived.Test.YtaaljmmnfgghfaaDS2
namespace Go.Proofs.Ytaaljmmnfgghfaa
open Go.RowKit
/-- How far the first bands lie apart. -/
def farTo {α : Type} [DecidableEq α] (y : List (α × Int)) (a : α) (n : Nat) : Nat := ((List.range n).map fun b : Nat => (dd y a (b : Int)).natAbs).sum
theorem farTo_succ {α : Type} [DecidableEq α] (y : List (α × Int)) (a : α) (n : Nat) : farTo y a (n + 1) = farTo y a n + (dd y a (n : Int)).natAbs := by
  unfold farTo; rw [List.range_succ, List.map_append, List.sum_append]; simp
theorem farTo_ten {α : Type} [DecidableEq α] (y : List (α × Int)) (a : α) : farTo y a 10 = dfar y a := rfl
/-- How many of the first have the band. -/
def tbTo (x : List Pn) (b : Int) (n : Nat) : Nat := tb (prs (x.take n)) b
theorem tbTo_succ (x : List Pn) (b : Int) (n : Nat) (hn : n < x.length) : tbTo x b (n + 1) = tbTo x b n + if bd x[n] = b then 1 else 0 := by
  unfold tbTo
  rw [prs_take_succ x n hn, tb_app, tb_cons]
  simp [tb]
theorem tbTo_all (x : List Pn) (b : Int) : tbTo x b x.length = tb (prs x) b := by unfold tbTo; rw [List.take_length]
theorem tbTo_le (x : List Pn) (b : Int) (n : Nat) : tbTo x b n ≤ n := by
  have h1 := List.length_filter_le (fun q : (Int × Int × Int) × Int => decide (q.2 = b)) (prs (x.take n))
  have h2 := List.length_take_le n x
  rw [prs_len] at h1
  unfold tbTo tb; omega
theorem dd_bd {n q t s : Nat} (hq : q ≤ 40) (hn : n ≤ q) (ht : t ≤ q) (hs : s ≤ q) : (0 : Int) ≤ (n : Int) * q ∧ (n : Int) * q ≤ 1600 ∧ (0 : Int) ≤ (t : Int) * s ∧ (t : Int) * s ≤ 1600 := by
  have h1 : n * q ≤ 40 * 40 := Nat.mul_le_mul (by omega) hq
  have h2 : t * s ≤ 40 * 40 := Nat.mul_le_mul (by omega) (by omega)
  have e1 : (n : Int) * q = ((n * q : Nat) : Int) := by simp
  have e2 : (t : Int) * s = ((t * s : Nat) : Int) := by simp
  rw [e1, e2]; omega
set_option maxHeartbeats 2000000 in
theorem sDFar_is (W : World) (l : List Pn) (v : Value) (hv : IsP W v l) (ll : List (List Int)) (u : Value) (hu : IsR W u ll) (r : Rc) (k : Int) (g : Int) (hg : dfarI l ll r k = g) (w : World) (hb : Below W.heap.size W w) :
    Calls Try.prog 20 #[v, u, r.val, .int .i64 k] w (Back (.int .i64 g) W) := by
  obtain ⟨W1, hW, hb1, hz, hc⟩ := boxed hb r
  have HC := Lib.hid hc
  have HV := Lib.hid (hv.below hb1)
  have HU := Lib.hid (hu.below hb1)
  have HG := Lib.hid hg
  clear hv hu hb hg
  obtain ⟨s, hs⟩ : ∃ s, gsize l ll r k = s := ⟨_, rfl⟩
  have HSZ := Lib.hid hs
  clear hs
  go_enter Try.func20, Try.ntmps20
  go_wp2_with fail
  rw [← hW]
  clear hW hc
  refine (sGSize_is W1 l v HV.out ll u HU.out r k s HSZ.out _ (Below.refl _ _)).mono ?_
  rintro e w2 ⟨rfl, h2⟩
  have b2 := hb1.trans (h2.mono hb1.size)
  by_cases hneg : s < 0
  · have HE := Lib.hid (show g = -1 by rw [← HG.out, (dsize_neg (by rw [HSZ.out]; exact hneg)).2])
    go_wp2
    go_ret
    exact ⟨reti HE.out.symm, b2⟩
  obtain ⟨j, rfl, hj, hok⟩ := gsize_dsize (l := l) (ll := ll) (r := r) (k := k) (by rw [HSZ.out]; omega)
  have HOK := Lib.hid hok
  obtain ⟨z, hzs⟩ : ∃ z : Nat, z = cnk l ll r j := ⟨_, rfl⟩
  have hsz : s = (z : Int) := by rw [hzs, ← HSZ.out, gsize_at hok hj]
  subst hsz
  obtain ⟨y, hy⟩ : ∃ y, prsOf l ll r = y := ⟨_, rfl⟩
  obtain ⟨a, ha⟩ : ∃ a, ky ll r l j = a := ⟨_, rfl⟩
  have HGX := Lib.hid (show ((dfar y a : Nat) : Int) = g by rw [← HG.out, dfarI_at hok hj, fkr, hy, ha])
  have HKN := Lib.hid (show kn y a = z by rw [hzs, ← hy, ← ha, prsOf, kn_prs]; rfl)
  have hzl : z ≤ l.length := by rw [hzs]; exact cnk_le l ll r j
  clear hzs
  obtain ⟨c0, c1, c2⟩ := HC.out _ h2
  go_wp2_with fail
  refine (sRecP_is w2 l v (HV.out.below h2) ll u (HU.out.below h2) r (recL ll r l) true (by rw [recOut, if_pos HOK.out]) HOK.out _ (Below.refl _ _)).mono ?_
  rintro e w3 ⟨xv, rfl, hx, h3⟩
  have hxi := hx.is
  have hbr := bandRow_rec ll r hj
  have hyx : prs (recL ll r l) = y := hy
  obtain ⟨x, hxe⟩ : ∃ x, recL ll r l = x := ⟨_, rfl⟩
  have hjx : j < x.length := by rw [← hxe, recL_len]; exact hj
  have hxl : x.length = l.length := by rw [← hxe, recL_len]
  have hx40 : x.length ≤ 40 := by rw [hxl]; exact (okL_all (gr_parts.1 HOK.out).1).1
  have HXO := Lib.hid (show okL x = true by rw [← hxe]; exact recL_ok HOK.out)
  rw [hxe] at hxi hbr hyx
  rw [hy, ha] at hbr
  have HBR := Lib.hid hbr
  have HYX := Lib.hid hyx
  have HYL := Lib.hid (show y.length = x.length by rw [← hyx, prs_len])
  have b3 := b2.trans (h3.mono b2.size)
  obtain ⟨A, c, rfl, a1, a2, a3⟩ := hxi
  obtain ⟨q, hq⟩ : ∃ q, q = x.length := ⟨_, rfl⟩
  have HXI := Lib.hid (show IsP w3 (.slice A q c) x from by rw [hq]; exact ⟨A, c, rfl, a1, a2, a3⟩)
  have HXR := Lib.hid a3
  have HQ := Lib.hid hq
  rw [← hq] at hx40 hxl ⊢
  have hzq : z ≤ q := by omega
  have HJ := Lib.hid hjx
  clear hx hxe a1 a2 a3 hq c0 c1 c2 hy ha hok hj hjx hxl hzl hbr hyx hneg
  go_wp2_with fail
  refine (sBands_is w3 x (.slice A q c) HXI.out HXO.out j HJ.out _ HBR.out _ (Below.refl _ _)).mono ?_
  rintro e w4 ⟨A4, rfl, hr, h4⟩
  have HR := Lib.hid hr; clear hr
  have b4 := b3.trans (h4.mono b3.size)
  have HX4 := Lib.hid (HXR.out.moved h4)
  go_wp2
  go_loopw [13, 14] (fun v i wr => ∃ b : Nat, b ≤ 10 ∧ i = .int .i64 b ∧ v = .int .i64 (farTo y a b) ∧ farTo y a b ≤ b * 3200 ∧ Below w4.heap.size w4 wr) (fun _ i _ => 10 - (intOf i).toNat)
  case atStart => exact ⟨0, Nat.zero_le _, rfl, rfl, Nat.zero_le _, Below.refl _ _⟩
  case round =>
    obtain ⟨b, hb10, rfl, rfl, hfb, hb⟩ := hrel
    by_cases hlt : b < 10
    · have hbi : (b : Int) < 10 := by omega
      obtain ⟨f, hf⟩ : ∃ f, f = farTo y a b := ⟨_, rfl⟩
      have HS := Lib.hid (show farTo y a (b + 1) = f + (dd y a (b : Int)).natAbs by rw [hf]; exact farTo_succ y a b)
      rw [← hf] at hfb ⊢
      clear hf
      go_wp2
      go_loopw [15, 16] (fun t i wr => ∃ m : Nat, m ≤ q ∧ i = .int .i64 m ∧ t = .int .i64 (tbTo x b m) ∧ Below w4.heap.size w4 wr) (fun _ i _ => q - (intOf i).toNat)
      case atStart => exact ⟨0, Nat.zero_le _, rfl, rfl, hb⟩
      case round =>
        obtain ⟨m, hm, rfl, rfl, hb⟩ := hrel
        have htl := tbTo_le x (b : Int) m
        by_cases hlt2 : m < q
        · have hmi : (m : Int) < (q : Int) := by omega
          have hmx : m < x.length := by rw [← HQ.out]; exact hlt2
          obtain ⟨p, hp⟩ : ∃ p, p = x[m] := ⟨_, rfl⟩
          obtain ⟨t, ht⟩ : ∃ t, t = tbTo x (b : Int) m := ⟨_, rfl⟩
          have HT := Lib.hid (show tbTo x (b : Int) (m + 1) = t + if bd p = (b : Int) then 1 else 0 by rw [ht, hp]; exact tbTo_succ x b m hmx)
          have hpay : 0 ≤ p.pay ∧ p.pay ≤ 999 := by have h := okP_parts.1 (okL_mem HXO.out p (by rw [hp]; exact List.getElem_mem hmx)); omega
          obtain ⟨bx, o, hA, hbx, k0, k1, k2, e3⟩ := HX4.out.at_ m hmx
          subst hA
          have e4 := (hb.cell (p := ⟨bx, o + m * 4 + 3, none⟩) hbx).trans e3
          rw [← hp] at e4
          rw [← ht] at htl ⊢
          clear e3 k0 k1 k2 hp ht hmx
          obtain ⟨hp0, hp9⟩ := hpay
          by_cases hbd : p.pay / 100 = (b : Int)
          · rw [show bd p = (b : Int) from hbd, if_pos rfl] at HT
            go_wp2
            go_roundw
            case rel => exact ⟨m + 1, by omega, by go_num, by rw [HT.out]; go_num, hb⟩
            case measure => simp [intOf]; omega
          · rw [if_neg (show ¬ bd p = (b : Int) from hbd)] at HT
            go_wp2
            go_roundw
            case rel => exact ⟨m + 1, by omega, by go_num, by rw [HT.out]; simp, hb⟩
            case measure => simp [intOf]; omega
        · have hmq : m = x.length := by rw [← HQ.out]; omega
          have hall := tbTo_all x (b : Int)
          rw [← hmq, HYX.out] at hall
          obtain ⟨n, hn⟩ : ∃ n, n = nb y a (b : Int) := ⟨_, rfl⟩
          obtain ⟨t, ht⟩ : ∃ t, t = tb y (b : Int) := ⟨_, rfl⟩
          have hnq : n ≤ q := by rw [hn, HQ.out, ← HYL.out]; exact nb_len _ _ _
          rw [hall, ← ht] at htl
          have htq : t ≤ q := by omega
          have hddq : dd y a (b : Int) = (n : Int) * q - (t : Int) * z := by rw [dd, ← hn, ← ht, HKN.out, HYL.out, ← HQ.out]
          rw [hddq] at HS
          obtain ⟨P0, P1, T0, T1⟩ := dd_bd (s := z) hx40 hnq htq hzq
          obtain ⟨bx, o, hA, hbx, hc⟩ := HR.out.int_ b (by rw [rowB_len]; exact hlt)
          have hcell : (rowB y a).getD b 0 = (n : Int) := by rw [List.getD_eq_getElem?_getD, rowB_in y a hlt, ← hn]; rfl
          rw [hcell] at hc
          subst hA
          have e4 := (hb.cell (p := ⟨bx, o + b, none⟩) hbx).trans hc
          rw [hall, ← ht]
          clear hc hcell hn ht hall hddq
          by_cases hd : (n : Int) * q - (t : Int) * z < 0
          · go_wp2
            go_roundw
            case rel => exact ⟨b + 1, by omega, by go_num, by rw [HS.out]; congr 1; omega, by rw [HS.out]; omega, hb⟩
            case measure => simp [intOf]; omega
          · go_wp2
            go_roundw
            case rel => exact ⟨b + 1, by omega, by go_num, by rw [HS.out]; congr 1; omega, by rw [HS.out]; omega, hb⟩
            case measure => simp [intOf]; omega
    · obtain rfl : b = 10 := by omega
      rw [farTo_ten]
      go_wp2
      go_ret
      exact ⟨reti HGX.out, b4.trans (hb.mono b4.size)⟩
end Go.Proofs.Ytaaljmmnfgghfaa
