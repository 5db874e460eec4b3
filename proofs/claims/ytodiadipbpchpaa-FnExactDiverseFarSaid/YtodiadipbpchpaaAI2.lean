/- Contracts of the program: people of small groups, those that are kept, costs. -/
import Derived.Test.YtodiadipbpchpaaAI
import Derived.Test.YtodiadipbpchpaaAS
set_option maxRecDepth 100000
namespace Go.Proofs.Ytodiadipbpchpaa
open Go.RowKit
set_option maxHeartbeats 1000000 in
theorem iAKeep_is (W : World) (l : List Pn) (v : Value) (hv : IsP W v l) (ll : List (List Int)) (u : Value) (hu : IsR W u ll) (r : Rc) (k : Int) (m : List Pn) (t : Bool) (hg : akeep l ll r k = m) (ht : adOk l ll r k = t) (w : World) (hb : Below W.heap.size W w) :
    Calls Try.prog 53 #[v, u, r.val, .int .i64 k] w (OutP m t w) := by
  have HGM := Lib.hid hg
  have HGT := Lib.hid ht
  clear hg ht
  have hv' := hv.below hb
  have hu' := hu.below hb
  obtain ⟨W1, hW, hb1, hz, hc⟩ := boxed (Below.refl w.heap.size w) r
  have HV := Lib.hid (hv'.below hb1)
  have HU := Lib.hid (hu'.below hb1)
  have HB1 := Lib.hid hb1
  clear hv hu hb hv' hu' hc hb1
  go_enter Try.func53, Try.ntmps53
  go_wp2_with fail
  rw [← hW]
  clear hW
  refine (iRecP_is W1 l v HV.out ll u HU.out r (recOut l ll r) (grOk l ll r) rfl rfl _ (Below.refl _ _)).mono ?_
  rintro e w2 ⟨x, rfl, hx, h2⟩
  have hb2 := HB1.out.trans (h2.mono (Nat.le_of_lt hz))
  have hz2 := hb2.size
  have HO := Lib.hid (own_new w w2 hb2)
  have HB2 := Lib.hid hb2
  have HBA := Lib.hid (hb2.alloc hz2 (.cells #[] TP))
  clear h2 hb2
  cases hok : grOk l ll r
  · obtain rfl : t = false := by rw [← HGT.out, adOk, hok]; rfl
    obtain rfl : m = [] := by rw [← HGM.out, akeep, adOk, hok]; rfl
    clear hok hx
    go_wp2
    go_ret2
    exact ⟨_, rfl, InP.of HO.out, HBA.out⟩
  have HX := Lib.hid (show IsP w2 x (recL ll r l) by have h := hx.is; rwa [recOut, if_pos hok] at h)
  have HOK := Lib.hid hok
  clear hok hx
  go_wp2_with fail
  refine (iNeed_any k _).mono ?_
  rintro e w' ⟨rfl, rfl⟩
  cases hk : in3 k 1 40
  · obtain rfl : t = false := by rw [← HGT.out, adOk, HOK.out, hk]; rfl
    obtain rfl : m = [] := by rw [← HGM.out, akeep, adOk, HOK.out, hk]; rfl
    clear hk
    go_wp2
    go_ret2
    exact ⟨_, rfl, InP.of HO.out, HBA.out⟩
  have hka : adOk l ll r k = true := by rw [adOk, HOK.out, hk]; rfl
  obtain rfl : t = true := by rw [← HGT.out, hka]
  have HM := Lib.hid (show keepP (recL ll r l) k = m by rw [← HGM.out, akeep_at hka])
  have h40 : (recL ll r l).length ≤ 100000 := by have := (okL_all (gr_parts.1 HOK.out).1).1; rw [recL_len]; omega
  have HWK := Lib.hid (wk_rec HOK.out)
  obtain ⟨Ax, cx, rfl, hx1, hx2, hx3⟩ := HX.out
  have HR := Lib.hid hx3
  clear hk hka hx3 hx1 hx2
  go_wp2_with fail
  refine (iKeepL_any (recL ll r l) _ rfl h40 HWK.out Ax cx k _ HR.out).mono ?_
  rintro e w5 ⟨y, rfl, ho, h5⟩
  rw [HM.out] at ho
  have HOY := Lib.hid (ownP_less ho hz2)
  have HB5 := Lib.hid (HB2.out.trans (h5.mono hz2))
  clear ho h5
  go_wp2
  go_ret2
  exact ⟨_, rfl, InP.of HOY.out, HB5.out⟩
theorem iADrop_is (W : World) (l : List Pn) (v : Value) (hv : IsP W v l) (ll : List (List Int)) (u : Value) (hu : IsR W u ll) (r : Rc) (k : Int) (g : Int) (hg : adrop l ll r k = g) (w : World) (hb : Below W.heap.size W w) :
    Calls Try.prog 33 #[v, u, r.val, .int .i64 k] w (Back (.int .i64 g) W) := by
  obtain ⟨W1, hW, hb1, hz, hc⟩ := boxed hb r
  have HV := Lib.hid (hv.below hb1)
  have HU := Lib.hid (hu.below hb1)
  have HB1 := Lib.hid hb1
  have HG := Lib.hid hg
  clear hv hu hb hg hc hb1
  obtain ⟨Av, cv, hv2, hd1, hd2, _⟩ := HV.out
  subst hv2
  go_enter Try.func33, Try.ntmps33
  go_wp2_with fail
  rw [← hW]
  clear hW
  refine (iAKeep_is W1 l _ HV.out ll u HU.out r k (akeep l ll r k) (adOk l ll r k) rfl rfl _ (Below.refl _ _)).mono ?_
  rintro e w2 ⟨x, rfl, hx, h2⟩
  have HB2 := Lib.hid (HB1.out.trans (h2.mono HB1.out.size))
  clear h2
  cases hok : adOk l ll r k
  · have HE := Lib.hid (show g = -1 by rw [← HG.out, adrop_no hok])
    clear hok hx
    go_wp2
    go_ret
    exact ⟨reti HE.out.symm, HB2.out⟩
  have h40 : l.length ≤ 40 := (okL_all (gr_parts.1 (ad_parts.1 hok).1).1).1
  have hlen := keepP_len (recL ll r l) k
  rw [recL_len] at hlen
  have hx2 := hx.is
  rw [akeep_at hok] at hx2
  obtain ⟨Ax, cx, rfl, hx1, _, _⟩ := hx2
  have hg2 : g = (l.length : Int) - (keepP (recL ll r l) k).length := by
    rw [← HG.out, adrop_at hok]; unfold keysOf; omega
  obtain ⟨q, hq⟩ : ∃ q, l.length = q := ⟨_, rfl⟩
  obtain ⟨y, hy⟩ : ∃ y, (keepP (recL ll r l) k).length = y := ⟨_, rfl⟩
  rw [hq, hy] at hg2 hlen
  rw [hq] at h40
  have HE := Lib.hid hg2
  rw [hq, hy]
  clear hok hx hq hy hg2 hx1
  go_wp2
  go_ret
  exact ⟨reti (by rw [HE.out]), HB2.out⟩
theorem iAOk_is (W : World) (l : List Pn) (v : Value) (hv : IsP W v l) (ll : List (List Int)) (u : Value) (hu : IsR W u ll) (r : Rc) (k : Int) (g : Bool) (hg : aok l ll r k = g) (w : World) (hb : Below W.heap.size W w) :
    Calls Try.prog 13 #[v, u, r.val, .int .i64 k] w (Back (.bool g) W) := by
  obtain ⟨W1, hW, hb1, hz, hc⟩ := boxed hb r
  have HV := Lib.hid (hv.below hb1)
  have HU := Lib.hid (hu.below hb1)
  have HG := Lib.hid hg
  clear hv hu hb hg
  obtain ⟨d, hd⟩ : ∃ d, adrop l ll r k = d := ⟨_, rfl⟩
  have HD := Lib.hid hd
  have HE := Lib.hid (show g = decide (d = 0) by rw [← HG.out, aok, hd])
  clear hd
  go_enter Try.func13, Try.ntmps13
  go_wp2_with fail
  rw [← hW]
  clear hW hc
  refine (iADrop_is W1 l v HV.out ll u HU.out r k d HD.out _ (Below.refl _ _)).mono ?_
  rintro e w2 ⟨rfl, h2⟩
  go_wp2
  go_ret
  exact ⟨retb (by rw [HE.out, Bool.eq_iff_iff]; simp), hb1.trans (h2.mono hb1.size)⟩
end Go.Proofs.Ytodiadipbpchpaa
