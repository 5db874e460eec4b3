/- Contracts of the model: diversity, by values. -/
import Derived.Test.YtaaljmmnfgghfaaDS
import Derived.Test.YtaaljmmnfgghfaaAS
namespace Go.Proofs.Ytaaljmmnfgghfaa
open Go.RowKit
theorem sBands_is (W : World) (x : List Pn) (v : Value) (hv : IsP W v x) (hx : okL x = true) (k : Nat) (hk : k < x.length) (m : List Int) (hm : bandRow x k x.length = m) (w : World) (hb : Below W.heap.size W w) :
    Calls Try.prog 31 #[v, .int .i64 k] w fun e w' => ∃ A, e = .returned (.slice A 10 10) ∧ Row w' w'.heap.size A (icells m) ∧ Below w.heap.size w w' := by
  subst hm
  obtain ⟨A, c, rfl, a1, a2, a3⟩ := hv
  refine (sBands_at W x _ rfl A c k hk hx a3 w hb).mono ?_
  rintro e w' ⟨rfl, ho, hb'⟩
  obtain ⟨A', c', he, _, _, hr, _⟩ := ho.form
  injection he with e1 _ _
  exact ⟨_, rfl, by rw [e1]; exact hr, hb'⟩
theorem bandRow_rec {l : List Pn} (ll : List (List Int)) (r : Rc) {k : Nat} (hk : k < l.length) : bandRow (recL ll r l) k (recL ll r l).length = rowB (prsOf l ll r) (ky ll r l k) := by
  unfold bandRow
  rw [List.take_length, getD_rec ll r l k hk]; rfl
theorem manyI_rec {l : List Pn} (ll : List (List Int)) (r : Rc) {k : Nat} (hk : k < l.length) : manyI (bandRow (recL ll r l) k (recL ll r l).length) = dk l ll r k := by
  rw [bandRow_rec ll r hk, manyI_row]; rfl
theorem bandRow_nn (x : List Pn) (k n : Nat) : ∀ v ∈ bandRow x k n, 0 ≤ v := rowB_nn _ _
theorem bandRow_ln (x : List Pn) (k n : Nat) : (bandRow x k n).length = 10 := rowB_len _ _
theorem gsize_dsize {l : List Pn} {ll : List (List Int)} {r : Rc} {k : Int} (h : 0 ≤ gsize l ll r k) : ∃ j : Nat, k = j ∧ j < l.length ∧ grOk l ll r = true := by
  unfold gsize at h; split at h
  · rename_i hc
    simp only [Bool.and_eq_true, in3, decide_eq_true_eq] at hc
    exact ⟨k.toNat, by omega, by omega, hc.1⟩
  · omega
theorem dsize_neg {l : List Pn} {ll : List (List Int)} {r : Rc} {k : Int} (h : gsize l ll r k < 0) : dsize l ll r k = -1 ∧ dfarI l ll r k = -1 := by
  unfold gsize at h; split at h
  · omega
  · rename_i hc; unfold dsize dfarI; rw [if_neg hc, if_neg hc]; exact ⟨rfl, rfl⟩
set_option maxHeartbeats 1000000 in
theorem sDSize_is (W : World) (l : List Pn) (v : Value) (hv : IsP W v l) (ll : List (List Int)) (u : Value) (hu : IsR W u ll) (r : Rc) (k : Int) (g : Int) (hg : dsize l ll r k = g) (w : World) (hb : Below W.heap.size W w) :
    Calls Try.prog 15 #[v, u, r.val, .int .i64 k] w (Back (.int .i64 g) W) := by
  obtain ⟨W1, hW, hb1, hz, hc⟩ := boxed hb r
  have HC := Lib.hid hc
  have HV := Lib.hid (hv.below hb1)
  have HU := Lib.hid (hu.below hb1)
  have HG := Lib.hid hg
  clear hv hu hb hg
  obtain ⟨s, hs⟩ : ∃ s, gsize l ll r k = s := ⟨_, rfl⟩
  have HSZ := Lib.hid hs
  clear hs
  go_enter Try.func15, Try.ntmps15
  go_wp2_with fail
  rw [← hW]
  clear hW hc
  refine (sGSize_is W1 l v HV.out ll u HU.out r k s HSZ.out _ (Below.refl _ _)).mono ?_
  rintro e w2 ⟨rfl, h2⟩
  have b2 := hb1.trans (h2.mono hb1.size)
  by_cases hneg : s < 0
  · have HE := Lib.hid (show g = -1 by rw [← HG.out, (dsize_neg (by rw [HSZ.out]; exact hneg)).1])
    go_wp2
    go_ret
    exact ⟨reti HE.out.symm, b2⟩
  obtain ⟨j, rfl, hj, hok⟩ := gsize_dsize (l := l) (ll := ll) (r := r) (k := k) (by rw [HSZ.out]; omega)
  have HOK := Lib.hid hok
  have HM := Lib.hid (show manyI (bandRow (recL ll r l) j (recL ll r l).length) = g by rw [← HG.out, manyI_rec ll r hj, dsize_at hok hj])
  have HX := Lib.hid (recL_ok hok)
  have HJ := Lib.hid (show j < (recL ll r l).length by rw [recL_len]; exact hj)
  clear hok hj
  obtain ⟨c0, c1, c2⟩ := HC.out _ h2
  go_wp2_with fail
  refine (sRecP_is w2 l v (HV.out.below h2) ll u (HU.out.below h2) r (recL ll r l) true (by rw [recOut, if_pos HOK.out]) HOK.out _ (Below.refl _ _)).mono ?_
  rintro e w3 ⟨x, rfl, hx, h3⟩
  have hxi := hx.is
  have HXV := Lib.hid hxi
  have b3 := b2.trans (h3.mono b2.size)
  clear hx hxi c0 c1 c2
  go_wp2_with fail
  refine (sBands_is w3 (recL ll r l) x HXV.out HX.out j HJ.out _ rfl _ (Below.refl _ _)).mono ?_
  rintro e w4 ⟨A, rfl, hr, h4⟩
  have HR := Lib.hid hr; clear hr
  have b4 := b3.trans (h4.mono b3.size)
  go_wp2_with fail
  refine (sMany_is w4 _ 10 (bandRow_ln _ _ _).symm (bandRow_nn _ _ _) (by rw [bandRow_ln]; omega) A 10 HR.out g HM.out _ (Below.refl _ _)).mono ?_
  rintro e w5 ⟨rfl, h5⟩
  go_wp2
  go_ret
  exact ⟨rfl, b4.trans (h5.mono b4.size)⟩
/-- The least number of bands among the first people. -/
def dlTo (x : List Pn) (n : Nat) : Nat := ((x.take n).map fun p => dsz (prs x) (key p)).foldl min x.length
theorem dlTo_succ (x : List Pn) (n : Nat) (hn : n < x.length) : dlTo x (n + 1) = min (dlTo x n) (dsz (prs x) (key x[n])) := by
  unfold dlTo; rw [List.take_succ_eq_append_getElem hn, List.map_append, List.foldl_append]; rfl
theorem dlTo_all (x : List Pn) : dlTo x x.length = dlst (prs x) := by
  unfold dlTo dlst; rw [List.take_length, prs_len, prs, List.map_map]; rfl
theorem dlTo_le (x : List Pn) (n : Nat) : dlTo x n ≤ x.length := (foldl_min_le _ _).1
theorem manyI_at (x : List Pn) {k : Nat} (hk : k < x.length) : manyI (bandRow x k x.length) = dsz (prs x) (key x[k]) := by
  unfold bandRow
  rw [List.take_length, manyI_row, List.getD_eq_getElem?_getD, List.getElem?_eq_getElem hk]; rfl
set_option maxHeartbeats 1000000 in
theorem sDLeast_is (W : World) (l : List Pn) (v : Value) (hv : IsP W v l) (ll : List (List Int)) (u : Value) (hu : IsR W u ll) (r : Rc) (g : Int) (hg : dleast l ll r = g) (w : World) (hb : Below W.heap.size W w) :
    Calls Try.prog 23 #[v, u, r.val] w (Back (.int .i64 g) W) := by
  obtain ⟨W1, hW, hb1, hz, hc⟩ := boxed hb r
  have HC := Lib.hid hc
  have HV := Lib.hid (hv.below hb1)
  have HU := Lib.hid (hu.below hb1)
  have HG := Lib.hid hg
  clear hv hu hb hg
  go_enter Try.func23, Try.ntmps23
  go_wp2_with fail
  rw [← hW]
  clear hW hc
  refine (sRecP_is W1 l v HV.out ll u HU.out r (recOut l ll r) (grOk l ll r) rfl rfl _ (Below.refl _ _)).mono ?_
  rintro e w2 ⟨xv, rfl, hx, h2⟩
  have hb2 := hb1.trans (h2.mono hb1.size)
  cases hok : grOk l ll r
  · have HE := Lib.hid (show g = -1 by rw [← HG.out, dleast, if_neg (by rw [hok]; simp)])
    clear hok hx
    go_wp2
    go_ret
    exact ⟨reti HE.out.symm, hb2⟩
  have hxi : IsP w2 xv (recL ll r l) := by have h := hx.is; rwa [recOut, if_pos hok] at h
  obtain ⟨x, hxe⟩ : ∃ x, recL ll r l = x := ⟨_, rfl⟩
  have HXO := Lib.hid (show okL x = true by rw [← hxe]; exact recL_ok hok)
  have HGX := Lib.hid (show ((dlst (prs x) : Nat) : Int) = g by rw [← HG.out, dleast_at hok, prsOf, hxe])
  rw [hxe] at hxi
  have hx40 : x.length ≤ 40 := (okL_all HXO.out).1
  obtain ⟨A, c, rfl, a1, a2, a3⟩ := hxi
  obtain ⟨q, hq⟩ : ∃ q, q = x.length := ⟨_, rfl⟩
  have HXI := Lib.hid (show IsP w2 (.slice A q c) x from by rw [hq]; exact ⟨A, c, rfl, a1, a2, a3⟩)
  have HQ := Lib.hid hq
  rw [← hq] at hx40 ⊢
  clear hok hx hxe a1 a2 a3 hq
  go_wp2
  go_loopw [9, 10] (fun v i wr => ∃ k : Nat, k ≤ q ∧ i = .int .i64 k ∧ v = .int .i64 (dlTo x k) ∧ Below w2.heap.size w2 wr) (fun _ i _ => q - (intOf i).toNat)
  case atStart => exact ⟨0, Nat.zero_le _, rfl, by rw [show dlTo x 0 = x.length from rfl, ← HQ.out], Below.refl _ _⟩
  case round =>
    obtain ⟨k, hk, rfl, rfl, hb⟩ := hrel
    have hle := dlTo_le x k
    by_cases hlt : k < q
    · have hki : (k : Int) < (q : Int) := by omega
      have hkx : k < x.length := by rw [← HQ.out]; exact hlt
      obtain ⟨z, hz⟩ : ∃ z, z = dsz (prs x) (key x[k]) := ⟨_, rfl⟩
      have HS := Lib.hid (show dlTo x (k + 1) = min (dlTo x k) z by rw [hz]; exact dlTo_succ x k hkx)
      have HM := Lib.hid (show manyI (bandRow x k x.length) = z by rw [hz]; exact manyI_at x hkx)
      have hd : z ≤ 10 := by rw [hz]; exact dsz_le _ _
      have HKX := Lib.hid hkx
      obtain ⟨s, hs⟩ : ∃ s, dlTo x k = s := ⟨_, rfl⟩
      rw [hs] at hle HS ⊢
      have hle2 : s ≤ q := by rw [HQ.out]; exact hle
      clear hs hz hkx hle
      go_wp2_with fail
      refine (sBands_is w2 x (.slice A q c) HXI.out HXO.out k HKX.out _ rfl _ hb).mono ?_
      rintro e w3 ⟨A3, rfl, hr, h3⟩
      have HR := Lib.hid hr; clear hr
      have b3 := hb.trans (h3.mono hb.size)
      go_wp2_with fail
      refine (sMany_is w3 _ 10 (bandRow_ln _ _ _).symm (bandRow_nn _ _ _) (by rw [bandRow_ln]; omega) A3 10 HR.out z HM.out _ (Below.refl _ _)).mono ?_
      rintro e w4 ⟨rfl, h4⟩
      have b4 := b3.trans (h4.mono b3.size)
      have hcase : (s < z ∧ min s z = s) ∨ (z ≤ s ∧ min s z = z) := by omega
      rcases hcase with ⟨hm, hm2⟩ | ⟨hm, hm2⟩
      all_goals
        rw [hm2] at HS
        clear hm2
        go_wp2
        go_roundw
        case rel => exact ⟨k + 1, by omega, by go_num, by rw [HS.out]; try simp; try omega, b4⟩
        case measure => simp [intOf]; omega
    · have hkq : k = x.length := by rw [← HQ.out]; omega
      have hall := dlTo_all x
      rw [← hkq] at hall
      rw [hall]
      go_wp2
      go_ret
      exact ⟨reti HGX.out, hb2.trans (hb.mono hb2.size)⟩
end Go.Proofs.Ytaaljmmnfgghfaa
