/- Contracts of the program: the least diversity, diverse people. -/
import Derived.Test.YtaaljmmnfgghfaaDI6
namespace Go.Proofs.Ytaaljmmnfgghfaa
open Go.RowKit Go.Maps
theorem come_startP {D : Dm} {x : List Key} {f : Key → Nat} (h : PTells D x f) (hw : ∀ a ∈ x, wfK a) : ∀ a ∈ x, come (Maps.has D) a = false := fun a ha => by
  rw [come, h.has a (hw a ha)]; simp [ha]
set_option maxHeartbeats 1000000 in
theorem iDLeast_is (W : World) (l : List Pn) (v : Value) (hv : IsP W v l) (ll : List (List Int)) (u : Value) (hu : IsR W u ll) (r : Rc) (g : Int) (hg : dleast l ll r = g) (w : World) (hb : Below W.heap.size W w) :
    Calls Try.prog 22 #[v, u, r.val] w (Back (.int .i64 g) W) := by
  obtain ⟨W1, hW, hb1, hz, hc⟩ := boxed hb r
  have HV := Lib.hid (hv.below hb1)
  have HU := Lib.hid (hu.below hb1)
  have HB1 := Lib.hid hb1
  have HG := Lib.hid hg
  clear hv hu hb hc hb1 hg
  go_enter Try.func22, Try.ntmps22
  go_wp2_with fail
  rw [← hW]
  clear hW
  refine (iRecP_is W1 l v HV.out ll u HU.out r (recOut l ll r) (grOk l ll r) rfl rfl _ (Below.refl _ _)).mono ?_
  rintro e w2 ⟨x, rfl, hx, h2⟩
  have HB2 := Lib.hid (HB1.out.trans (h2.mono HB1.out.size))
  clear h2
  cases hok : grOk l ll r
  · have HE := Lib.hid (show g = -1 by rw [← HG.out, dleast, if_neg (by rw [hok]; simp)])
    clear hok hx
    go_wp2
    go_ret
    exact ⟨reti HE.out.symm, HB2.out⟩
  have hxi : IsP w2 x (recL ll r l) := by have h := hx.is; rwa [recOut, if_pos hok] at h
  obtain ⟨X, hX⟩ : ∃ X, recL ll r l = X := ⟨_, rfl⟩
  have HXO := Lib.hid (show okL X = true by rw [← hX]; exact recL_ok hok)
  have HE := Lib.hid (show ((dlst (prs X) : Nat) : Int) = g by rw [← HG.out, dleast_at hok, prsOf, hX])
  rw [hX] at hxi
  clear hx hok hX
  have h40 := (okL_all HXO.out).1
  obtain ⟨Ax, cx, rfl, _, _, hx3⟩ := hxi
  obtain ⟨q, hq⟩ : ∃ q, q = X.length := ⟨_, rfl⟩
  have HXL := Lib.hid hq
  have HRX := Lib.hid hx3
  have hq40 : q ≤ 40 := by omega
  rw [← hq]
  clear hq hx3 h40
  go_wp2_with fail
  refine (iGroups_any X q HXL.out HXO.out Ax cx _ HRX.out).mono ?_
  rintro e w3 ⟨rfl, ⟨D, f, hown, ht, hbl, hinj⟩, h3⟩
  have HB3 := Lib.hid (HB2.out.trans (h3.mono HB2.out.size))
  obtain ⟨y, hy⟩ : ∃ y, prs X = y := ⟨_, rfl⟩
  obtain ⟨K, hK⟩ : ∃ K, y.map Prod.fst = K := ⟨_, rfl⟩
  have HQY := Lib.hid (show q = y.length by rw [HXL.out, ← hy, prs_len])
  rw [hy] at ht hbl hinj HE
  rw [hK] at ht hbl hinj
  have HDL := Lib.hid (show (K.map (dsz y)).foldl min q = dlst y by rw [← hK, HQY.out]; exact leastF_dlst y)
  have HT := Lib.hid ht
  have HBL := Lib.hid hbl
  have HWX := Lib.hid (show ∀ a ∈ K, wfK a from fun a ha => (hbl a ha).1)
  clear h3 hy hK ht hbl hinj
  go_wp2_with (first
    | (at_range; refine wpList_range_own _ rfl _ TMp rfl TK TPt kLaw pMap ePtr w2.heap.size q D rfl hown ?_; intro w0 hrg0 hg0 hs0)
    | go_in)
  go_frame
  have HRG0 := Lib.hid hrg0
  have HB0 := Lib.hid (show Below w3.heap.size w3 w0 from (Below.refl _ _).grown hg0 (Nat.le_refl _) (fun k hk => by cases hk))
  clear hown hrg0 hg0
  go_loopw [9] (fun v wr => ∃ (left : Lit → Bool) (cnt : Nat), wr.ranges Try.prog TK ePtr w2.heap.size w3.heap.size q D left cnt ∧ v = .int .i64 (leastF K (dsz y) q (come left)) ∧ Below w3.heap.size w3 wr) (fun _ wr => wr.rangeLeft w2.heap.size w3.heap.size)
  case atStart => exact ⟨_, _, HRG0.out, by rw [leastF_none K _ _ _ (come_startP HT.out HWX.out)], HB0.out⟩
  case round =>
    obtain ⟨left, cnt, hrg, rfl, hb⟩ := hrel
    have hz := hb.size
    clear HRG0 HB0
    have hle := leastF_le K (dsz y) q (come left)
    go_wp2_with (first
      | (at_next; refine next_ptr _ rfl _ rfl w2.heap.size w3.heap.size q D _ _ K f rfl hrg HT.out ?_ ?_)
      | go_in)
    · intro hl0
      have HLE := Lib.hid (leastF_all K (dsz y) q (come left) (come_end hl0 K))
      go_wp2
      go_ret
      exact ⟨reti (by rw [HLE.out, HDL.out]; exact HE.out), HB3.out.trans (hb.mono HB3.out.size)⟩
    · intro a1 a2 a3 w1 cnt1 hwa hax hla hrg1 hlt hg1 hen
      have HST := Lib.hid (leastF_step K (dsz y) q (come left) (come (fun z => left z && !z.sameKey (kl (a1, a2, a3)))) (a1, a2, a3) hax (come_step hwa HWX.out))
      have hb1 := hb.grown hg1 hz (fun k hk => by cases hk; exact Nat.le_refl _)
      have HBB := Lib.hid ((HBL.out _ hax).2.2.keep (hb1.block _ (HBL.out _ hax).2.2.lt))
      have HMI := Lib.hid (manyI_row y (a1, a2, a3))
      obtain ⟨s, hs⟩ : ∃ s, leastF K (dsz y) q (come left) = s := ⟨_, rfl⟩
      obtain ⟨m, hm⟩ : ∃ m, dsz y (a1, a2, a3) = m := ⟨_, rfl⟩
      obtain ⟨B, hB⟩ : ∃ B, f (a1, a2, a3) = B := ⟨_, rfl⟩
      have hm10 : m ≤ 10 := by rw [← hm]; exact dsz_le _ _
      rw [hs, hm] at HST
      rw [hs] at hle ⊢
      rw [hm] at HMI
      rw [hB] at hen HBB ⊢
      clear hs hm hB hax hla hwa
      have HRG := Lib.hid hrg
      have HRG1 := Lib.hid hrg1
      clear hrg hrg1 hg1
      go_wp2_with fail
      refine (iDiff_any _ (rowB_len _ _) (rowB_nn _ _) m HMI.out B w1 HBB.out).mono ?_
      rintro e w' ⟨rfl, rfl⟩
      by_cases hsm : s ≤ m
      · have hsm' : (s : Int) ≤ (m : Int) := by omega
        go_wp2
        all_goals
          go_roundw
          case rel => exact ⟨_, cnt1, HRG1.out, by rw [HST.out, Nat.min_eq_left hsm], hb1⟩
          case measure => rw [HRG1.out.left_eq, HRG.out.left_eq]; exact hlt
      · have hsm' : ¬ (s : Int) ≤ (m : Int) := by omega
        go_wp2
        all_goals
          go_roundw
          case rel => exact ⟨_, cnt1, HRG1.out, by rw [HST.out, Nat.min_eq_right (by omega)], hb1⟩
          case measure => rw [HRG1.out.left_eq, HRG.out.left_eq]; exact hlt
end Go.Proofs.Ytaaljmmnfgghfaa
