/- Contracts of the program: the least diversity, diverse people. -/
import Derived.Test.YtodiadipbpchpaaDI6
set_option maxRecDepth 100000
namespace Go.Proofs.Ytodiadipbpchpaa
open Go.RowKit Go.Maps
theorem come_startP {D : Dm} {x : List Key} {f : Key → Nat} (h : PTells D x f) (hw : ∀ a ∈ x, wfK a) : ∀ a ∈ x, come (Maps.has D) a = false := fun a ha => by
  rw [come, h.has a (hw a ha)]; simp [ha]
set_option maxHeartbeats 1000000 in
theorem iDLeast_is (W : World) (l : List Pn) (v : Value) (hv : IsP W v l) (ll : List (List Int)) (u : Value) (hu : IsR W u ll) (r : Rc) (g : Int) (hg : dleast l ll r = g) (w : World) (hb : Below W.heap.size W w) :
    Calls Try.prog 14 #[v, u, r.val] w (Back (.int .i64 g) W) := by
  obtain ⟨W1, hW, hb1, hz, hc⟩ := boxed hb r
  have HV := Lib.hid (hv.below hb1)
  have HU := Lib.hid (hu.below hb1)
  have HB1 := Lib.hid hb1
  have HG := Lib.hid hg
  clear hv hu hb hc hb1 hg
  go_enter Try.func14, Try.ntmps14
  go_wp2_with fail
  rw [← hW]
  clear hW
  refine (iRecP_is W1 l v HV.out ll u HU.out r (recOut l ll r) (grOk l ll r) rfl rfl _ (Below.refl _ _)).mono ?_
  rintro e w2 ⟨x, rfl, hx, h2⟩
  have HB2 := Lib.hid (HB1.out.trans (h2.mono HB1.out.size))
  clear h2
  cases hok : grOk l ll r
  · have HE := Lib.hid (show g = -1 by rw [← HG.out, dleast, if_neg (by rw [hok]; simp)])
    clear hok hx
    go_wp2
    go_ret
    exact ⟨reti HE.out.symm, HB2.out⟩
  have hxi : IsP w2 x (recL ll r l) := by have h := hx.is; rwa [recOut, if_pos hok] at h
  obtain ⟨X, hX⟩ : ∃ X, recL ll r l = X := ⟨_, rfl⟩
  have HXO := Lib.hid (show okL X = true by rw [← hX]; exact recL_ok hok)
  have HE := Lib.hid (show ((dlst (prs X) : Nat) : Int) = g by rw [← HG.out, dleast_at hok, prsOf, hX])
  rw [hX] at hxi
  clear hx hok hX
  have h40 := (okL_all HXO.out).1
  obtain ⟨Ax, cx, rfl, _, _, hx3⟩ := hxi
  obtain ⟨q, hq⟩ : ∃ q, q = X.length := ⟨_, rfl⟩
  have HXL := Lib.hid hq
  have HRX := Lib.hid hx3
  have hq40 : q ≤ 40 := by omega
  rw [← hq]
  clear hq hx3 h40
  go_wp2_with fail
  refine (iGroups_any X q HXL.out HXO.out Ax cx _ HRX.out).mono ?_
  rintro e w3 ⟨rfl, ⟨D, f, hown, ht, hbl, hinj⟩, h3⟩
  have HB3 := Lib.hid (HB2.out.trans (h3.mono HB2.out.size))
  obtain ⟨y, hy⟩ : ∃ y, prs X = y := ⟨_, rfl⟩
  obtain ⟨K, hK⟩ : ∃ K, y.map Prod.fst = K := ⟨_, rfl⟩
  have HQY := Lib.hid (show q = y.length by rw [HXL.out, ← hy, prs_len])
  rw [hy] at ht hbl hinj HE
  rw [hK] at ht hbl hinj
  have HDL := Lib.hid (show (K.map (dsz y)).foldl min q = dlst y by rw [← hK, HQY.out]; exact leastF_dlst y)
  have HT := Lib.hid ht
  have HBL := Lib.hid hbl
  have HWX := Lib.hid (show ∀ a ∈ K, wfK a from fun a ha => (hbl a ha).1)
  clear h3 hy hK ht hbl hinj
  go_wp2_with (first
    | (at_range; refine wpList_range_own _ rfl _ TMp rfl TK TPt kLaw pMap ePtr w2.heap.size q D rfl hown ?_; intro w0 hrg0 hg0 hs0)
    | go_in)
  go_frame
  have HRG0 := Lib.hid hrg0
  have HB0 := Lib.hid (show Below w3.heap.size w3 w0 from (Below.refl _ _).grown hg0 (Nat.le_refl _) (fun k hk => by cases hk))
  clear hown hrg0 hg0
  go_loopw [9] (fun v wr => ∃ (left : Lit → Bool) (cnt : Nat), wr.ranges Try.prog TK ePtr w2.heap.size w3.heap.size q D left cnt ∧ v = .int .i64 (leastF K (dsz y) q (come left)) ∧ Below w3.heap.size w3 wr) (fun _ wr => wr.rangeLeft w2.heap.size w3.heap.size)
  case atStart => exact ⟨_, _, HRG0.out, by rw [leastF_none K _ _ _ (come_startP HT.out HWX.out)], HB0.out⟩
  case round =>
    obtain ⟨left, cnt, hrg, rfl, hb⟩ := hrel
    have hz := hb.size
    clear HRG0 HB0
    have hle := leastF_le K (dsz y) q (come left)
    go_wp2_with (first
      | (at_next; refine next_ptr _ rfl _ rfl w2.heap.size w3.heap.size q D _ _ K f rfl hrg HT.out ?_ ?_)
      | go_in)
    · intro hl0
      have HLE := Lib.hid (leastF_all K (dsz y) q (come left) (come_end hl0 K))
      go_wp2
      go_ret
      exact ⟨reti (by rw [HLE.out, HDL.out]; exact HE.out), HB3.out.trans (hb.mono HB3.out.size)⟩
    · intro a1 a2 a3 w1 cnt1 hwa hax hla hrg1 hlt hg1 hen
      have HST := Lib.hid (leastF_step K (dsz y) q (come left) (come (fun z => left z && !z.sameKey (kl (a1, a2, a3)))) (a1, a2, a3) hax (come_step hwa HWX.out))
      have hb1 := hb.grown hg1 hz (fun k hk => by cases hk; exact Nat.le_refl _)
      have HBB := Lib.hid ((HBL.out _ hax).2.2.keep (hb1.block _ (HBL.out _ hax).2.2.lt))
      have HMI := Lib.hid (manyI_row y (a1, a2, a3))
      obtain ⟨s, hs⟩ : ∃ s, leastF K (dsz y) q (come left) = s := ⟨_, rfl⟩
      obtain ⟨m, hm⟩ : ∃ m, dsz y (a1, a2, a3) = m := ⟨_, rfl⟩
      obtain ⟨B, hB⟩ : ∃ B, f (a1, a2, a3) = B := ⟨_, rfl⟩
      have hm10 : m ≤ 10 := by rw [← hm]; exact dsz_le _ _
      rw [hs, hm] at HST
      rw [hs] at hle ⊢
      rw [hm] at HMI
      rw [hB] at hen HBB ⊢
      clear hs hm hB hax hla hwa
      have HRG := Lib.hid hrg
      have HRG1 := Lib.hid hrg1
      clear hrg hrg1 hg1
      go_wp2_with fail
      refine (iDiff_any _ (rowB_len _ _) (rowB_nn _ _) m HMI.out B w1 HBB.out).mono ?_
      rintro e w' ⟨rfl, rfl⟩
      by_cases hsm : s ≤ m
      · have hsm' : (s : Int) ≤ (m : Int) := by omega
        go_wp2
        all_goals
          go_roundw
          case rel => exact ⟨_, cnt1, HRG1.out, by rw [HST.out, Nat.min_eq_left hsm], hb1⟩
          case measure => rw [HRG1.out.left_eq, HRG.out.left_eq]; exact hlt
      · have hsm' : ¬ (s : Int) ≤ (m : Int) := by omega
        go_wp2
        all_goals
          go_roundw
          case rel => exact ⟨_, cnt1, HRG1.out, by rw [HST.out, Nat.min_eq_right (by omega)], hb1⟩
          case measure => rw [HRG1.out.left_eq, HRG.out.left_eq]; exact hlt
set_option maxHeartbeats 1000000 in
theorem iDOk_is (W : World) (l : List Pn) (v : Value) (hv : IsP W v l) (ll : List (List Int)) (u : Value) (hu : IsR W u ll) (r : Rc) (k m : Int) (g : Bool) (hg : dok l ll r k m = g) (w : World) (hb : Below W.heap.size W w) :
    Calls Try.prog 11 #[v, u, r.val, .int .i64 k, .int .i64 m] w (Back (.bool g) W) := by
  obtain ⟨W1, hW, hb1, hz, hc⟩ := boxed hb r
  have HC := Lib.hid hc
  have hv1 := hv.below hb1
  have HU := Lib.hid (hu.below hb1)
  have HG := Lib.hid hg
  obtain ⟨A, c, rfl, a1, a2, a3⟩ := hv1
  obtain ⟨q, hq⟩ : ∃ q, q = l.length := ⟨_, rfl⟩
  have HV := Lib.hid (show IsP W1 (.slice A q c) l from by rw [hq]; exact ⟨A, c, rfl, a1, a2, a3⟩)
  have HQ := Lib.hid hq
  rw [← hq]
  clear hv hu hb hg a1 a2 a3 hq
  obtain ⟨t, ht⟩ : ∃ t, aok l ll r k = t := ⟨_, rfl⟩
  have HT := Lib.hid ht
  clear ht
  go_enter Try.func11, Try.ntmps11
  go_wp2_with fail
  rw [← hW]
  clear hW hc
  refine (iAOk_is W1 l (.slice A q c) HV.out ll u HU.out r k t HT.out _ (Below.refl _ _)).mono ?_
  rintro e w2 ⟨rfl, h2⟩
  have b2 := hb1.trans (h2.mono hb1.size)
  cases t
  · have HE := Lib.hid (show g = false by rw [← HG.out, dok, HT.out]; simp)
    go_wp2
    go_ret
    exact ⟨retb HE.out.symm, b2⟩
  go_wp2_with fail
  refine (iNeed_any m _).mono ?_
  rintro e w' ⟨rfl, rfl⟩
  cases hm : in3 m 1 40
  · have HE := Lib.hid (show g = false by rw [← HG.out, dok, hm]; rfl)
    clear hm
    go_wp2
    go_ret
    exact ⟨retb HE.out.symm, b2⟩
  have HM := Lib.hid hm
  clear hm
  obtain ⟨c0, c1, c2⟩ := HC.out _ h2
  by_cases h0 : q = 0
  · have HE := Lib.hid (show g = true by rw [← HG.out, dok, HT.out, HM.out, ← HQ.out, h0]; rfl)
    subst h0
    go_wp2
    go_ret
    exact ⟨retb HE.out.symm, b2⟩
  obtain ⟨d, hd⟩ : ∃ d, dleast l ll r = d := ⟨_, rfl⟩
  have HD := Lib.hid hd
  have HE := Lib.hid (show g = decide (m ≤ d) by rw [← HG.out, dok, HT.out, HM.out, ← HQ.out, hd]; simp [h0])
  have hq0 : (0 : Int) < (q : Int) := by omega
  clear hd h0
  go_wp2_with fail
  refine (iDLeast_is _ l (.slice A q c) (HV.out.below h2) ll u (HU.out.below h2) r d HD.out _ (Below.refl _ _)).mono ?_
  rintro e w3 ⟨rfl, h3⟩
  go_wp2
  go_ret
  have e : ((q : Int) == 0) = false := by rw [beq_eq_false_iff_ne]; omega
  exact ⟨retb (by rw [HE.out, e, Bool.false_or]), b2.trans (h3.mono b2.size)⟩
end Go.Proofs.Ytodiadipbpchpaa
